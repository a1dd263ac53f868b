import Derived.Test.YteggcdhibcjneaaGreatDoorLE
import Derived.Test.YteggcdhibcjneaaGreatDoorVC
import Derived.Deep.RegionHeld3
import Derived.Deep.Slices
set_option maxRecDepth 100000
set_option maxHeartbeats 4000000
namespace Go.Proofs.YteggcdhibcjneaaGreatDoor.Kit
open Go.RowKit Go.Shelf Go.Deep
theorem Tells.gr {F : Nat} {v : Value} {er : Int} {p : List Nat} {tt : Int} {w W : World} (h : Tells w F v er p tt) (g : Gr w W) : Tells W F v er p tt := fun W' g' => h W' (g.trans g' (fun _ _ h => h))

theorem RowAt.up {S : Nat → Prop} {W : World} : ∀ {d : Nat} {ao : Option Addr} {l : List FT}, RowAt S W d ao l → RowAt S W (d + 1) ao l
  | 0, _, _, h => by
    have h' : _ = [] := h
    subst h'
    exact ⟨by simp [big], fun h => absurd rfl h⟩
  | d + 1, _, _, h => ⟨h.1, fun hn => by
    obtain ⟨b, o, e, hb, hi⟩ := h.2 hn
    refine ⟨b, o, e, hb, fun i hl => ?_⟩
    obtain ⟨ao', ca', hc, hle, hr⟩ := hi i hl
    exact ⟨ao', ca', hc, hle, RowAt.up hr⟩⟩
theorem RowAt.le {S : Nat → Prop} {W : World} {d e : Nat} (h : d ≤ e) {ao : Option Addr} {l : List FT} (hr : RowAt S W d ao l) : RowAt S W e ao l := by
  induction e with
  | zero => obtain rfl : d = 0 := by omega
            exact hr
  | succ e ih =>
    by_cases hd : d = e + 1
    · subst hd; exact hr
    · exact (ih (by omega)).up

end Go.Proofs.YteggcdhibcjneaaGreatDoor.Kit
namespace Go.Proofs.YteggcdhibcjneaaGreatDoor.Kd
open Go.Proofs.YteggcdhibcjneaaGreatDoor.Kit
open Go.RowKit Go.Shelf Go.Deep
set_option linter.unusedVariables false
set_option linter.unusedSimpArgs false
attribute [local go_sem] run_store_func
def Ans (F : Nat) (args : Array Value) (b : Bool) (w : World) : Prop := ∀ W, Gr w W → Calls Tryz.prog F args W fun e w' => e = .returned (.bool b) ∧ Gr W w'
theorem Ans.gr {F : Nat} {args : Array Value} {b : Bool} {w W : World} (h : Ans F args b w) (g : Gr w W) : Ans F args b W := fun W' g' => h W' (g.trans g' (fun _ _ h => h))

theorem beqZ {a b : Int} (h : ¬ a = b) : (a == b) = false := by simp [h]
structure BX (w W : World) (X : Nat) (c : Array Value) (t : Nat) : Prop where
  g : Gr w W
  b : W.heap[X]? = some (.cells c t)
theorem BX.gr {w W W' : World} {X t : Nat} {c : Array Value} (h : BX w W X c t) (k : Gr W W') : BX w W' X c t := ⟨h.g.trans k (fun _ _ h => h), (k.block _ (lt_of_heap h.b) id).trans h.b⟩
theorem cell2 {W : World} {B t : Nat} {x y : Value} (h : W.heap[B]? = some (.cells #[x, y] t)) : W.cell? ⟨B, 0, none⟩ = some x ∧ W.cell? ⟨B, 1, none⟩ = some y := by simp [World.cell?, h]
def AnsV (F : Nat) (args : Array Value) (v : Value) (w : World) : Prop := ∀ W, Gr w W → Calls Tryz.prog F args W fun e w' => e = .returned v ∧ Gr W w'
theorem AnsV.gr {F : Nat} {args : Array Value} {v : Value} {w W : World} (h : AnsV F args v w) (g : Gr w W) : AnsV F args v W := fun W' g' => h W' (g.trans g' (fun _ _ h => h))
theorem maybe_gen {fo no : Option Addr} {nf cf nn cn : Nat} {er tt : Int} {p : List Nat} {w : World} (h : Tells w 17 (.agg #[.slice fo nf cf, .slice no nn cn]) er p tt) :
    Ans 56 #[.agg #[.slice fo nf cf, .slice no nn cn]] (er == 0) w := by
  intro W g
  have HL := hidM (h.gr g)
  clear h g
  unfold Tells at HL
  have hfl : ∀ vo vn vc w, (Instr.field 61 (.agg #[.int .i64 er, .slice vo vn vc, .int .i64 tt]) 0).run Tryz.prog w = .ok (.int .i64 er) w := fun vo vn vc w => by kernel_rfl
  go_enter Tryz.func56, Tryz.ntmps56
  go_wp2_with (go_at_call 17; refine Hid.out ?_)
  unfold Hid
  refine Calls.mono (HL.out _ (gr_alloc W _)) ?_
  rintro e W1 ⟨vo, vc, rfl, hg1, -⟩
  have HE := hidM hg1
  clear hg1
  go_wp2_with fail
  go_ret
  exact ⟨rfl, (gr_alloc W _).trans HE.out (fun _ _ h => h)⟩
noncomputable def z37 : Value := ((Tryz.prog.info? 47).bind (·.zero)).getD default
theorem c37 : z37.cells.size = 7 := by kernel_rfl
theorem info37 : (Tryz.prog.info? 47).map (fun i => (i.zero, i.size, i.bytes)) = some (some z37, 7, 80) := by kernel_rfl
/-- the cells of a list, one behind the other -/
def c7 (l : List FT) (F : Nat → Option Addr × Nat) (i t : Nat) : Value :=
  match t with
  | 0 => .string (l[i]!).name
  | 1 => .bool (l[i]!).nul
  | 2 => .int .i64 (l[i]!).kind
  | 3 => .int .i64 (l[i]!).width
  | 4 => .int .i64 (l[i]!).id
  | 5 => .int .i64 (l[i]!).index
  | _ => .slice (F i).1 (l[i]!).kids.length (F i).2
def row7 (l : List FT) (F : Nat → Option Addr × Nat) : List Value := (List.range (l.length * 7)).map fun j => c7 l F (j / 7) (j % 7)
theorem row7_len (l : List FT) (F : Nat → Option Addr × Nat) : (row7 l F).length = l.length * 7 := by simp [row7]
theorem row7_at {l : List FT} {F : Nat → Option Addr × Nat} {i t : Nat} (hi : i < l.length) (ht : t < 7) : (row7 l F)[i * 7 + t]? = some (c7 l F i t) := by
  have h1 : (i * 7 + t) / 7 = i := by omega
  have h2 : (i * 7 + t) % 7 = t := by omega
  have h3 : i * 7 + t < l.length * 7 := by omega
  simp [row7, h1, h2, h3]
theorem row7_cell {W : World} {b o : Nat} {l : List FT} {F : Nat → Option Addr × Nat} (h : ∀ i (hi : i < l.length), CellsAt W b (o + i * 7) l[i] (F i).1 (F i).2) (j : Nat) (u : Value) (hu : (row7 l F)[j]? = some u) : W.cell? ⟨b, o + j, none⟩ = some u := by
  have hj : j < l.length * 7 := by
    have := (List.getElem?_eq_some_iff.1 hu).1
    rwa [row7_len] at this
  obtain ⟨i, t, rfl, ht⟩ : ∃ i t, j = i * 7 + t ∧ t < 7 := ⟨j / 7, j % 7, by omega, by omega⟩
  have hi : i < l.length := by omega
  rw [row7_at hi ht] at hu
  have e := Option.some.inj hu
  subst e
  have hc := h i hi
  have hb : l[i]! = l[i] := getElem!_pos l i hi
  have k : t = 0 ∨ t = 1 ∨ t = 2 ∨ t = 3 ∨ t = 4 ∨ t = 5 ∨ t = 6 := by omega
  rcases k with rfl | rfl | rfl | rfl | rfl | rfl | rfl
  · simpa [c7, hb, Nat.add_assoc] using hc.c0
  · simpa [c7, hb, Nat.add_assoc] using hc.c1
  · simpa [c7, hb, Nat.add_assoc] using hc.c2
  · simpa [c7, hb, Nat.add_assoc] using hc.c3
  · simpa [c7, hb, Nat.add_assoc] using hc.c4
  · simpa [c7, hb, Nat.add_assoc] using hc.c5
  · simpa [c7, hb, Nat.add_assoc] using hc.c6
theorem row7_one {l : List FT} {F : Nat → Option Addr × Nat} : ∀ u ∈ row7 l F, u.oneCell' = true := by
  intro u hu
  obtain ⟨j, _, rfl⟩ := List.mem_map.1 hu
  have k : j % 7 = 0 ∨ j % 7 = 1 ∨ j % 7 = 2 ∨ j % 7 = 3 ∨ j % 7 = 4 ∨ j % 7 = 5 ∨ j % 7 = 6 := by omega
  rcases k with h | h | h | h | h | h | h <;> rw [h] <;> rfl
/-- a row of one's own that holds these cells -/
theorem row7_own {W : World} {l : List FT} {F : Nat → Option Addr × Nat} {g n vc : Nat} (h : W.ownsRow 0 47 7 (.slice (some ⟨g, 0, none⟩) n vc) n (row7 l F)) (i : Nat) (hi : i < l.length) : CellsAt W g (i * 7) l[i] (F i).1 (F i).2 := by
  have hl := h.1
  rw [row7_len] at hl
  have hb : l[i]! = l[i] := getElem!_pos l i hi
  have k : ∀ t, t < 7 → W.cell? ⟨g, i * 7 + t, none⟩ = some (c7 l F i t) := fun t ht => by rw [h.cellAt (i * 7 + t) (by omega), row7_at hi ht]
  exact ⟨by simpa [c7, hb] using k 0 (by omega), by simpa [c7, hb] using k 1 (by omega), by simpa [c7, hb] using k 2 (by omega), by simpa [c7, hb] using k 3 (by omega), by simpa [c7, hb] using k 4 (by omega), by simpa [c7, hb] using k 5 (by omega), by simpa [c7, hb] using k 6 (by omega)⟩
theorem cell5 {W : World} {B t : Nat} {x0 x1 x2 x3 x4 : Value} (h : W.heap[B]? = some (.cells #[x0, x1, x2, x3, x4] t)) : W.cell? ⟨B, 0, none⟩ = some x0 ∧ W.cell? ⟨B, 1, none⟩ = some x1 ∧ W.cell? ⟨B, 2, none⟩ = some x2 ∧ W.cell? ⟨B, 3, none⟩ = some x3 ∧ W.cell? ⟨B, 4, none⟩ = some x4 := by simp [World.cell?, h]
/-- new memory -/
def NewB (W W' : World) (b : Nat) : Prop := W.heap.size ≤ b ∧ b < W'.heap.size
structure CopQ (W : World) (d n : Nat) (l : List FT) (vo : Option Addr) (vc : Nat) (w' : World) : Prop where
  g : Gr W w'
  le : n ≤ vc
  row : RowAt (NewB W w') w' d vo l
theorem CopQ.kept {w W0 W1 W' : World} {S : Nat → Prop} {d n vc : Nat} {l : List FT} {vo : Option Addr} (hg : Gr w W0) (hq : CopQ W0 d n l vo vc W1) (k : Keeps W1 W' S) (hS : ∀ b, S b → w.heap.size ≤ b ∧ b < W0.heap.size) : CopQ w d n l vo vc W' := by
  refine ⟨(hg.trans hq.g (fun _ _ h => h)).trans k (fun j hj h => by have := hS j h; omega), hq.le, ?_⟩
  exact (hq.row.kept fun b hb => k.block b hb.2 (fun h => by have := (hS b h).2; have := hb.1; omega)).mono (fun b hb => ⟨by have := hg.size; have := hb.1; omega, by have := hb.2; have := k.size; omega⟩)
theorem copiedType_walk (k d0 i x : Int) (ao : Option Addr) (n ca d : Nat) (l : List FT) (w : World) (h58 : ∀ W, Gr w W → Calls Tryz.prog 77 #[.slice ao n ca] W fun e w' => ∃ vo vc, e = .returned (.slice vo n vc) ∧ CopQ W d n l vo vc w') :
    Calls Tryz.prog 57 #[.agg #[.int .i64 k, .int .i64 d0, .int .i64 i, .int .i64 x, .slice ao n ca]] w fun e w' => ∃ vo vc, e = .returned (.agg #[.int .i64 k, .int .i64 d0, .int .i64 i, .int .i64 x, .slice vo n vc]) ∧ CopQ w d n l vo vc w' := by
  have H := hidM h58
  clear h58
  obtain ⟨W0, hW0⟩ : ∃ W0, (w.alloc (.cells #[.int .i64 k, .int .i64 d0, .int .i64 i, .int .i64 x, .slice ao n ca] 45)).alloc (.cells #[.int .i64 0, .int .i64 0, .int .i64 0, .int .i64 0, .slice none 0 0] 45) = W0 := ⟨_, rfl⟩
  have hg0 : Gr w W0 := by rw [← hW0]; exact (gr_alloc w _).alloc _
  have hs0 : W0.heap.size = w.heap.size + 2 := by rw [← hW0]; simp
  have x1 : W0.heap[w.heap.size]? = some (.cells #[.int .i64 k, .int .i64 d0, .int .i64 i, .int .i64 x, .slice ao n ca] 45) := by
    rw [← hW0]; exact (Below.heap_alloc _ _ _ (by simp)).trans (World.alloc_heap_new w _)
  have x2 : W0.heap[w.heap.size + 1]? = some (.cells #[.int .i64 0, .int .i64 0, .int .i64 0, .int .i64 0, .slice none 0 0] 45) := by
    rw [← hW0]
    have := World.alloc_heap_new (w.alloc (.cells #[.int .i64 k, .int .i64 d0, .int .i64 i, .int .i64 x, .slice ao n ca] 45)) (.cells #[.int .i64 0, .int .i64 0, .int .i64 0, .int .i64 0, .slice none 0 0] 45)
    rw [World.size_alloc] at this
    exact this
  have p4 : W0.cell? ⟨w.heap.size, 4, none⟩ = some (.slice ao n ca) := by simp [World.cell?, x1]
  have HX := hidM (And.intro hg0 (And.intro hs0 (And.intro x1 x2)))
  clear x1 x2 hg0 hs0
  go_enter Tryz.func57, Tryz.ntmps57
  go_wp2_with (go_at_call 77; refine Hid.out ?_)
  unfold Hid
  try rw [hW0]
  refine Calls.mono (H.out _ HX.out.1) ?_
  rintro e W1 ⟨vo, vc, rfl, hq⟩
  have y1 := (hq.g.block _ (lt_of_heap HX.out.2.2.1) id).trans HX.out.2.2.1
  have y2 := (hq.g.block _ (lt_of_heap HX.out.2.2.2) id).trans HX.out.2.2.2
  have f1 := frz y1 4
  have q4 : W1.cell? ⟨w.heap.size, 4, none⟩ = some (.slice ao n ca) := by simp [World.cell?, y1]
  obtain ⟨W2, hW2⟩ : ∃ W2, W1.setCell ⟨w.heap.size, 4, none⟩ (.slice vo n vc) = W2 := ⟨_, rfl⟩
  have z1 : W2.heap[w.heap.size]? = some (.cells #[.int .i64 k, .int .i64 d0, .int .i64 i, .int .i64 x, .slice vo n vc] 45) := by
    rw [← hW2, setc (j := 4) y1]; simp
  have z2 : W2.heap[w.heap.size + 1]? = some (.cells #[.int .i64 0, .int .i64 0, .int .i64 0, .int .i64 0, .slice none 0 0] 45) := by
    rw [← hW2, heap_setCell_other W1 _ _ _ (by simp)]; exact y2
  have a0 : W2.cell? ⟨w.heap.size, 0, none⟩ = some (.int .i64 k) := by simp [World.cell?, z1]
  have a1 : W2.cell? ⟨w.heap.size, 1, none⟩ = some (.int .i64 d0) := by simp [World.cell?, z1]
  have a2 : W2.cell? ⟨w.heap.size, 2, none⟩ = some (.int .i64 i) := by simp [World.cell?, z1]
  have a3 : W2.cell? ⟨w.heap.size, 3, none⟩ = some (.int .i64 x) := by simp [World.cell?, z1]
  have a4 : W2.cell? ⟨w.heap.size, 4, none⟩ = some (.slice vo n vc) := by simp [World.cell?, z1]
  have b0 : W2.cell? ⟨w.heap.size + 1, 0, none⟩ = some (.int .i64 0) := by simp [World.cell?, z2]
  have b1 : W2.cell? ⟨w.heap.size + 1, 1, none⟩ = some (.int .i64 0) := by simp [World.cell?, z2]
  have b2 : W2.cell? ⟨w.heap.size + 1, 2, none⟩ = some (.int .i64 0) := by simp [World.cell?, z2]
  have b3 : W2.cell? ⟨w.heap.size + 1, 3, none⟩ = some (.int .i64 0) := by simp [World.cell?, z2]
  have b4 : W2.cell? ⟨w.heap.size + 1, 4, none⟩ = some (.slice none 0 0) := by simp [World.cell?, z2]
  have fz := fun j => frz z2 j
  have g0 := fz 0
  have g1 := fz 1
  have g2 := fz 2
  have g3 := fz 3
  have g4 := fz 4
  have kk : Keeps W1 W2 (fun b => b = w.heap.size) := by rw [← hW2]; exact keep1 (j := 4) (Keeps.refl W1 (fun b => b = w.heap.size)) _
  have s0 := setc (j := 0) z2 (.int .i64 k)
  have s1 := setc (j := 1) s0 (.int .i64 d0)
  have s2 := setc (j := 2) s1 (.int .i64 i)
  have s3 := setc (j := 3) s2 (.int .i64 x)
  have s4 := setc (j := 4) s3 (.slice vo n vc)
  have kz : Keeps W2 _ (fun b => b = w.heap.size + 1) := keep1 (j := 4) (keep1 (j := 3) (keep1 (j := 2) (keep1 (j := 1) (keep1 (j := 0) (Keeps.refl W2 (fun b => b = w.heap.size + 1)) (.int .i64 k)) (.int .i64 d0)) (.int .i64 i)) (.int .i64 x)) (.slice vo n vc)
  have HE := hidM (And.intro s4 (And.intro kz (And.intro kk hq)))
  clear y1 y2 z1 z2 s0 s1 s2 s3 s4 kz kk hq fz
  go_wp2_with fail
  obtain ⟨s4, kz, kk, hq⟩ := HE.out
  have kall : Keeps W1 _ (fun b => b = w.heap.size ∨ b = w.heap.size + 1) := (kk.mono fun _ _ h => .inl h).trans (kz.mono fun _ _ h => Or.inr h) (fun _ _ h => h)
  have hsz := HX.out.2.1
  have hfin := CopQ.kept HX.out.1 hq kall (fun b hb => by omega)
  obtain ⟨v0, v1, v2, v3, v4⟩ := cell5 (s4.trans (by simp : _ = some (Obj.cells #[.int .i64 k, .int .i64 d0, .int .i64 i, .int .i64 x, .slice vo n vc] 45 (0, 0))))
  refine bodyPost_ret (v := .agg #[.int .i64 k, .int .i64 d0, .int .i64 i, .int .i64 x, .slice vo n vc]) ?_ rfl ⟨vo, vc, rfl, hfin⟩
  simp [results, Tryz.f57, go_sem, v0, v1, v2, v3, v4]
/-- the copy, as far as it has come -/
structure CopI (W wr : World) (d : Nat) (l : List FT) (F : Nat → Option Addr × Nat) (g k : Nat) : Prop where
  gr : Gr W wr
  ge : W.heap.size ≤ g
  box : ∃ cur, wr.heap[g]? = some (.cells cur 47)
  new : ∀ i (h : i < l.length), i < k → ∃ ao' ca', CellsAt wr g (i * 7) l[i] ao' ca' ∧ l[i].kids.length ≤ ca' ∧ RowAt (fun b => NewB W wr b ∧ b ≠ g) wr d ao' l[i].kids
  old : ∀ i (h : i < l.length), k ≤ i → CellsAt wr g (i * 7) l[i] (F i).1 (F i).2
theorem cellsAt_set {W : World} {g o o' : Nat} {f : FT} {ao : Option Addr} {ca : Nat} {cur : Array Value} (hb : W.heap[g]? = some (.cells cur 47)) (h : CellsAt W g o f ao ca) (v0 v1 v2 v3 v4 : Value) (hne : ∀ t s, t < 7 → s < 5 → o + t ≠ o' + 2 + s) :
    CellsAt (((((W.setCell ⟨g, o' + 2, none⟩ v0).setCell ⟨g, o' + 3, none⟩ v1).setCell ⟨g, o' + 4, none⟩ v2).setCell ⟨g, o' + 5, none⟩ v3).setCell ⟨g, o' + 6, none⟩ v4) g o f ao ca := by
  have hk : ∀ t, t < 7 → (((((W.setCell ⟨g, o' + 2, none⟩ v0).setCell ⟨g, o' + 3, none⟩ v1).setCell ⟨g, o' + 4, none⟩ v2).setCell ⟨g, o' + 5, none⟩ v3).setCell ⟨g, o' + 6, none⟩ v4).cell? ⟨g, o + t, none⟩ = W.cell? ⟨g, o + t, none⟩ := fun t ht => by
    have n0 := hne t 0 ht (by omega)
    have n1 := hne t 1 ht (by omega)
    have n2 := hne t 2 ht (by omega)
    have n3 := hne t 3 ht (by omega)
    have n4 := hne t 4 ht (by omega)
    rw [World.cell?_setCell_other _ _ _ _ (by simp <;> omega), World.cell?_setCell_other _ _ _ _ (by simp <;> omega), World.cell?_setCell_other _ _ _ _ (by simp <;> omega), World.cell?_setCell_other _ _ _ _ (by simp <;> omega), World.cell?_setCell_other _ _ _ _ (by simp <;> omega)]
  exact ⟨(hk 0 (by omega)).trans h.c0, (hk 1 (by omega)).trans h.c1, (hk 2 (by omega)).trans h.c2, (hk 3 (by omega)).trans h.c3, (hk 4 (by omega)).trans h.c4, (hk 5 (by omega)).trans h.c5, (hk 6 (by omega)).trans h.c6⟩
/-- a field's type, written anew -/
theorem cellsAt_put {W : World} {g o : Nat} {f : FT} {ao ao' : Option Addr} {ca ca' : Nat} {cur : Array Value} (hb : W.heap[g]? = some (.cells cur 47)) (h : CellsAt W g o f ao ca) :
    CellsAt (((((W.setCell ⟨g, o + 2, none⟩ (.int .i64 f.kind)).setCell ⟨g, o + 3, none⟩ (.int .i64 f.width)).setCell ⟨g, o + 4, none⟩ (.int .i64 f.id)).setCell ⟨g, o + 5, none⟩ (.int .i64 f.index)).setCell ⟨g, o + 6, none⟩ (.slice ao' f.kids.length ca')) g o f ao' ca' := by
  have lt : ∀ {t : Nat} {v : Value}, W.cell? ⟨g, o + t, none⟩ = some v → o + t < cur.size := fun {t v} hc => by
    simp [World.cell?, hb] at hc
    exact (Array.getElem?_eq_some_iff.1 hc).1
  have l2 := lt h.c2
  have l3 := lt h.c3
  have l4 := lt h.c4
  have l5 := lt h.c5
  have l6 := lt h.c6
  have hbs := setc (j := o + 6) (setc (j := o + 5) (setc (j := o + 4) (setc (j := o + 3) (setc (j := o + 2) hb (.int .i64 f.kind)) (.int .i64 f.width)) (.int .i64 f.id)) (.int .i64 f.index)) (.slice ao' f.kids.length ca')
  have c0 := h.c0
  have c1 := h.c1
  simp [World.cell?, hb] at c0 c1
  refine ⟨?_, ?_, ?_, ?_, ?_, ?_, ?_⟩
  · simp [World.cell?, hbs, c0]
  · simp [World.cell?, hbs, c1]
  · simp [World.cell?, hbs, l2]
  · simp [World.cell?, hbs, l3]
  · simp [World.cell?, hbs, l4]
  · simp [World.cell?, hbs, l5]
  · simp [World.cell?, hbs, l6]

theorem CopI.next {W wr w2 : World} {d : Nat} {l : List FT} {F : Nat → Option Addr × Nat} {g k vc : Nat} {vo : Option Addr} (h : CopI W wr d l F g k) (hk : k < l.length) (hq : CopQ wr d l[k].kids.length l[k].kids vo vc w2) :
    CopI W (((((w2.setCell ⟨g, k * 7 + 2, none⟩ (.int .i64 l[k].kind)).setCell ⟨g, k * 7 + 3, none⟩ (.int .i64 l[k].width)).setCell ⟨g, k * 7 + 4, none⟩ (.int .i64 l[k].id)).setCell ⟨g, k * 7 + 5, none⟩ (.int .i64 l[k].index)).setCell ⟨g, k * 7 + 6, none⟩ (.slice vo l[k].kids.length vc)) d l F g (k + 1) := by
  obtain ⟨cur, hb⟩ := h.box
  have hgl : g < wr.heap.size := lt_of_heap hb
  have hb2 := (hq.g.block g hgl id).trans hb
  have kz := keep1 (j := k * 7 + 6) (keep1 (j := k * 7 + 5) (keep1 (j := k * 7 + 4) (keep1 (j := k * 7 + 3) (keep1 (j := k * 7 + 2) (Keeps.refl w2 (fun b => b = g)) (.int .i64 l[k].kind)) (.int .i64 l[k].width)) (.int .i64 l[k].id)) (.int .i64 l[k].index)) (.slice vo l[k].kids.length vc)
  have hbs := setc (j := k * 7 + 6) (setc (j := k * 7 + 5) (setc (j := k * 7 + 4) (setc (j := k * 7 + 3) (setc (j := k * 7 + 2) hb2 (.int .i64 l[k].kind)) (.int .i64 l[k].width)) (.int .i64 l[k].id)) (.int .i64 l[k].index)) (.slice vo l[k].kids.length vc)
  have hsz := hq.g.size
  have hks := kz.size
  refine ⟨(h.gr.trans hq.g (fun _ _ h => h)).trans kz (fun j hj e => by have := h.ge; omega), h.ge, ⟨_, hbs⟩, fun i hi hlt => ?_, fun i hi hle => ?_⟩
  · by_cases e : i = k
    · subst e
      refine ⟨vo, vc, cellsAt_put hb2 ((h.old i hi (Nat.le_refl _)).kept (hq.g.block g hgl id)), hq.le, ?_⟩
      refine (hq.row.kept fun b hb => kz.block b hb.2 (by have := hb.1; omega)).mono fun b hb => ⟨⟨by have := h.gr.size; have := hb.1; omega, by have := hb.2; omega⟩, by have := hb.1; omega⟩
    · obtain ⟨ao', ca', h1, h2, h3⟩ := h.new i hi (by omega)
      refine ⟨ao', ca', cellsAt_set hb2 (h1.kept (hq.g.block g hgl id)) _ _ _ _ _ (fun t s ht hs => by omega), h2, ?_⟩
      refine ((h3.kept fun b hb => hq.g.block b hb.1.2 id).kept fun b hb => kz.block b (by have := hb.1.2; omega) hb.2).mono fun b hb => ⟨⟨hb.1.1, by have := hb.1.2; omega⟩, hb.2⟩
  · exact cellsAt_set hb2 ((h.old i hi (by omega)).kept (hq.g.block g hgl id)) _ _ _ _ _ (fun t s ht hs => by omega)
/-- done -/
theorem CopI.row {W wr : World} {d : Nat} {l : List FT} {F : Nat → Option Addr × Nat} {g : Nat} (h : CopI W wr d l F g l.length) (hl : l.length ≤ big) : RowAt (NewB W wr) wr (d + 1) (some ⟨g, 0, none⟩) l := by
  refine ⟨hl, fun hn => ⟨g, 0, rfl, ⟨h.ge, by obtain ⟨cur, hb⟩ := h.box; exact lt_of_heap hb⟩, fun i hi => ?_⟩⟩
  obtain ⟨ao', ca', h1, h2, h3⟩ := h.new i hi hi
  exact ⟨ao', ca', by rw [Nat.zero_add]; exact h1, h2, h3.mono fun b hb => hb.1⟩
theorem CopI.empty {W wr : World} {d : Nat} {vo : Option Addr} (g : Gr W wr) : RowAt (NewB W wr) wr (d + 1) vo [] := ⟨by simp [big], fun h => absurd rfl h⟩

theorem copied_walk (W : World) (ao : Option Addr) (ca : Nat) (l : List FT) (F : Nat → Option Addr × Nat) (d : Nat) (hl : l.length ≤ big) (hcell : l ≠ [] → ∃ b o, ao = some ⟨b, o, none⟩ ∧ ∀ i (hi : i < l.length), CellsAt W b (o + i * 7) l[i] (F i).1 (F i).2)
    (h67 : ∀ i (hi : i < l.length) W', Gr W W' → Calls Tryz.prog 57 #[.agg #[.int .i64 l[i].kind, .int .i64 l[i].width, .int .i64 l[i].id, .int .i64 l[i].index, .slice (F i).1 l[i].kids.length (F i).2]] W' fun e w' => ∃ vo vc, e = .returned (.agg #[.int .i64 l[i].kind, .int .i64 l[i].width, .int .i64 l[i].id, .int .i64 l[i].index, .slice vo l[i].kids.length vc]) ∧ CopQ W' d l[i].kids.length l[i].kids vo vc w') :
    Calls Tryz.prog 77 #[.slice ao l.length ca] W fun e w' => ∃ vo vc, e = .returned (.slice vo l.length vc) ∧ CopQ W (d + 1) l.length l vo vc w' := by
  have hsrc : Src Tryz.prog 7 27 (.slice ao l.length ca) l.length (row7 l F) W := by
    refine ⟨.inl ⟨47, Tryz.underlying27⟩, fun _ => rfl, ?_, ?_, row7_len l F, row7_one⟩
    all_goals
      by_cases hne : l = []
      · subst hne
        cases ao with
        | none => exact run_firstCells_none _ 7 0 0 ca
        | some a => exact run_firstCells_some _ 7 0 a 0 ca [] rfl (fun j u h => by simp at h)
      · obtain ⟨b, o, rfl, hc⟩ := hcell hne
        refine run_firstCells_some _ 7 l.length ⟨b, o, none⟩ l.length ca (row7 l F) (row7_len l F) (fun j u hu => ?_)
        have := row7_cell hc j u hu
        rw [show (⟨b, o, none⟩ : Addr).add j = ⟨b, o + j, none⟩ by simp [Addr.add]]
        simpa using this
  have HS := hidM hsrc
  have H67 := hidM h67
  have hll : l.length ≤ 1000000000000 := hl
  have HLb := hidM hl
  obtain ⟨L, hL⟩ : ∃ L, L = l.length := ⟨_, rfl⟩
  have HL := hidM hL.symm
  rw [← hL] at hll HS ⊢
  clear hsrc h67 hcell hl hL
  have H63 : Hid (0 + L ≤ 9223372036854775807) := by show _ ≤ _; omega
  have H80 : Hid ((0 + L) * 80 ≤ 140737488355328) := by show _ ≤ _; omega
  go_enter Tryz.func77, Tryz.ntmps77
  go_wp2_with (with_reducible show wpList Tryz.prog _ _ (Oper.mk (some 6) _ _ _ _ _ :: _) _ _; refine wpList_append_anyN (P := Tryz.prog) W rfl (.const (.slice none 0 0)) (.tmp 5) 27 27 rfl 47 z37 7 80 Tryz.underlying27 info37 c37 (.slice none 0 0) 0 [] rfl (World.ownsRow_nil W 0 47 7) (.slice ao L ca) L (row7 l F) rfl HS.out H63.out H80.out ?_; intro v' w1 hown hgrow hblk; rw [Nat.zero_add, List.nil_append] at hown; obtain ⟨vo, vc, rfl⟩ := own_formN hown; replace hown := hidM hown; replace hgrow := hidM hgrow; replace hblk := hidM hblk)
  replace hown := hown.out
  replace hgrow := hgrow.out
  replace hblk := hblk.out
  have hg1 : Gr W w1 := (Keeps.ofGrown hgrow).mono fun _ _ h => by simp [Value.ownBlock] at h
  have hI : L ≤ vc ∧ (0 < L → ∃ g, vo = some ⟨g, 0, none⟩ ∧ CopI W w1 d l F g 0) := by
    rcases hown.2 with ⟨h1, h2⟩ | ⟨g, cap, cur, h1, h2, h3, h4, h5⟩
    · simp only [Value.slice.injEq] at h1
      exact ⟨by omega, fun h => by omega⟩
    · simp only [Value.slice.injEq] at h1
      obtain ⟨rfl, -, rfl⟩ := h1
      refine ⟨h4, fun h0 => ⟨g, rfl, hg1, ?_, ⟨cur, h3⟩, fun i _ h => by omega, fun i hi _ => row7_own hown i hi⟩⟩
      rcases hblk with h | h
      · simp [Value.ownBlock] at h
      · exact h g rfl
  have HI := hidM hI
  have HG1 := hidM hg1
  have hvc := hI.1
  clear hown hgrow hblk hI hg1 HS
  go_loopw [9] (fun p wr => ∃ k : Nat, k ≤ L ∧ p = .int .i64 (k : Int) ∧ Hid (Gr W wr ∧ (0 < L → ∃ g, vo = some ⟨g, 0, none⟩ ∧ CopI W wr d l F g k))) (fun p _ => L - (intOf p).toNat)
  case atStart => exact ⟨0, by omega, rfl, HG1.out, HI.out.2⟩
  case round =>
    obtain ⟨k, hk, rfl, HK⟩ := hrel
    by_cases hlt : k < L
    · have hkl : k < l.length := by have := HL.out; omega
      obtain ⟨g, rfl, hC⟩ := HK.out.2 (by omega)
      obtain ⟨c0, c1, c2, c3, c4, c5, c6⟩ := hC.old k hkl (Nat.le_refl _)
      have hcall := H67.out k hkl wr hC.gr
      have HC := hidM hC
      obtain ⟨f, hf⟩ : ∃ f, f = l[k]'hkl := ⟨_, rfl⟩
      rw [← hf] at c0 c1 c2 c3 c4 c5 c6 hcall
      have HF := hidM hf
      obtain ⟨ko, hko⟩ : ∃ ko, ko = (F k).1 := ⟨_, rfl⟩
      obtain ⟨kc, hkc⟩ : ∃ kc, kc = (F k).2 := ⟨_, rfl⟩
      rw [← hko, ← hkc] at c6 hcall
      have HCall := hidM hcall
      have hltI : (k : Int) < (L : Int) := by omega
      clear hC hf hcall HK hko hkc c0 c1
      go_wp2_with (go_at_call 57; refine Hid.out ?_)
      unfold Hid
      refine Calls.mono HCall.out ?_
      rintro e w2 ⟨xo, xc, rfl, hq⟩
      obtain ⟨cur, hb⟩ := HC.out.box
      have hb2 := (hq.g.block g (lt_of_heap hb) id).trans hb
      have d2 := hq.g.cell' c2 id
      have d3 := hq.g.cell' c3 id
      have d4 := hq.g.cell' c4 id
      have d5 := hq.g.cell' c5 id
      have d6 := hq.g.cell' c6 id
      have fz := fun j => frz hb2 j
      have e2 := fz (k * 7 + 2)
      have e3 := fz (k * 7 + 3)
      have e4 := fz (k * 7 + 4)
      have e5 := fz (k * 7 + 5)
      have e6 := fz (k * 7 + 6)
      have HN : Hid (CopI W (((((w2.setCell ⟨g, k * 7 + 2, none⟩ (.int .i64 f.kind)).setCell ⟨g, k * 7 + 3, none⟩ (.int .i64 f.width)).setCell ⟨g, k * 7 + 4, none⟩ (.int .i64 f.id)).setCell ⟨g, k * 7 + 5, none⟩ (.int .i64 f.index)).setCell ⟨g, k * 7 + 6, none⟩ (.slice xo f.kids.length xc)) d l F g (k + 1)) := by
        rw [HF.out] at hq ⊢
        exact HC.out.next hkl hq
      clear hb hb2 hq fz c2 c3 c4 c5 c6 HCall
      go_wp2_with fail
      go_roundw
      case rel => exact ⟨k + 1, by omega, by simp, HN.out.gr, fun _ => ⟨g, rfl, HN.out⟩⟩
      case measure => simp [intOf]; omega
    · have hkL : k = L := by omega
      subst hkL
      have HE : Hid (CopQ W (d + 1) k l vo vc wr) := by
        refine ⟨HK.out.1, hvc, ?_⟩
        by_cases h0 : 0 < k
        · obtain ⟨g, rfl, hC⟩ := HK.out.2 h0
          have hll := HL.out
          rw [← hll] at hC
          exact hC.row HLb.out
        · have : l = [] := List.eq_nil_of_length_eq_zero (by have := HL.out; omega)
          subst this
          exact CopI.empty HK.out.1
      go_wp2_with fail
      go_ret
      exact ⟨vo, vc, rfl, HE.out⟩
/-- all depths -/
theorem copied_any : ∀ (d : Nat) (S : Nat → Prop) (W : World) (ao : Option Addr) (ca : Nat) (l : List FT), RowAt S W d ao l → (∀ b, S b → b < W.heap.size) →
    Calls Tryz.prog 77 #[.slice ao l.length ca] W fun e w' => ∃ vo vc, e = .returned (.slice vo l.length vc) ∧ CopQ W d l.length l vo vc w'
  | 0, S, W, ao, ca, l, hr, hS => by
    have h' : l = [] := hr
    subst h'
    refine Calls.mono (copied_walk W ao ca [] (fun _ => (none, 0)) 0 (by simp [big]) (fun h => absurd rfl h) (fun i hi => by simp at hi)) ?_
    rintro e w' ⟨vo, vc, rfl, hq⟩
    exact ⟨vo, vc, rfl, hq.g, hq.le, rfl⟩
  | d + 1, S, W, ao, ca, l, hr, hS => by
    have hex : ∀ i, i < l.length → ∃ q : Option Addr × Nat, ∃ (hi : i < l.length), (∀ b o, ao = some ⟨b, o, none⟩ → CellsAt W b (o + i * 7) l[i] q.1 q.2) ∧ RowAt S W d q.1 l[i].kids := by
      intro i hi
      obtain ⟨b, o, rfl, _, hc⟩ := hr.2 (fun e => by subst e; simp at hi)
      obtain ⟨ao', ca', h1, h2, h3⟩ := hc i hi
      exact ⟨(ao', ca'), hi, fun b' o' e => by cases e; exact h1, h3⟩
    obtain ⟨F, hF⟩ := choose_lt hex
    refine copied_walk W ao ca l F d hr.1 (fun hne => ?_) (fun i hi W' g' => ?_)
    · obtain ⟨b, o, rfl, _, hc⟩ := hr.2 hne
      exact ⟨b, o, rfl, fun i hi => (hF i hi).2.1 b o rfl⟩
    · refine copiedType_walk _ _ _ _ _ _ _ d _ W' fun W'' g'' => ?_
      have g2 := g'.trans g'' (fun _ _ h => h)
      exact copied_any d S W'' (F i).1 (F i).2 l[i].kids ((hF i hi).2.2.kept fun b hb => g2.block b (hS b hb) id) (fun b hb => by have := hS b hb; have := g2.size; omega)
def zFT : FT := ⟨⟨#[]⟩, false, 0, 0, 0, 0, []⟩
def atGo : FT → List FT → List Int → Option FT
  | cur, _, [] => some cur
  | _, l, i :: r => if 0 ≤ i ∧ i < l.length then atGo (l[i.toNat]!) (l[i.toNat]!).kids r else none
def atR (er : Int) (fs : List FT) (path : List Int) : Int × FT :=
  if er ≠ 0 then (5, zFT) else if path = [] then (1, zFT) else match atGo zFT fs path with | none => (2, zFT) | some f => (0, f)
/-- whole numbers in memory -/
def ZsAt (W : World) (po : Option Addr) (l : List Int) : Prop := l ≠ [] → ∃ b o, po = some ⟨b, o, none⟩ ∧ ∀ j (h : j < l.length), W.cell? ⟨b, o + j, none⟩ = some (.int .i64 l[j])
theorem ZsAt.gr {W W' : World} {po : Option Addr} {l : List Int} (h : ZsAt W po l) (g : Gr W W') : ZsAt W' po l := fun hn => by
  obtain ⟨b, o, e, hc⟩ := h hn
  exact ⟨b, o, e, fun j hj => g.cell' (hc j hj) id⟩
/-- what an At answers -/
def AtQ (W : World) (D : Nat) (r : Int × FT) (e : Ending) (w' : World) : Prop := ∃ vo vc, e = .returned (.tuple #[.agg #[.string r.2.name, .bool r.2.nul, .int .i64 r.2.kind, .int .i64 r.2.width, .int .i64 r.2.id, .int .i64 r.2.index, .slice vo r.2.kids.length vc], .int .i64 r.1]) ∧ Gr W w' ∧ r.2.kids.length ≤ vc ∧ RowAt (fun b => b < w'.heap.size) w' D vo r.2.kids
theorem row_none (S : Nat → Prop) (W : World) (D : Nat) (vo : Option Addr) : RowAt S W D vo [] := by
  cases D with
  | zero => rfl
  | succ D => exact ⟨by simp [big], fun h => absurd rfl h⟩
theorem AtQ.zero {W w' : World} {D : Nat} {er : Int} {r : Int × FT} (hr : r = (er, zFT)) (g : Gr W w') : AtQ W D r (.returned (.tuple #[.agg #[.string ⟨#[]⟩, .bool false, .int .i64 0, .int .i64 0, .int .i64 0, .int .i64 0, .slice none 0 0], .int .i64 er])) w' := by
  subst hr
  exact ⟨none, 0, rfl, g, by simp [zFT, FT.kids], row_none _ _ _ _⟩
/-- how far the walk has come -/
structure AtI (S : Nat → Prop) (W wr : World) (D B F : Nat) (fs : List FT) (path : List Int) (k : Nat) (cur : FT) (xo : Option Addr) (xc : Nat) (lst : List FT) (lo : Option Addr) (lc : Nat) : Prop where
  g : Gr W wr
  rest : atGo zFT fs path = atGo cur lst (path.drop k)
  box : wr.heap[F]? = some (.cells #[.string cur.name, .bool cur.nul, .int .i64 cur.kind, .int .i64 cur.width, .int .i64 cur.id, .int .i64 cur.index, .slice xo cur.kids.length xc] 47)
  res : wr.heap[B]? = some (.cells #[.string ⟨#[]⟩, .bool false, .int .i64 0, .int .i64 0, .int .i64 0, .int .i64 0, .slice none 0 0] 47)
  row : RowAt S wr D lo lst
  le : lst.length ≤ lc
  krow : RowAt S wr D xo cur.kids
  kle : cur.kids.length ≤ xc
theorem AtI.keep {S : Nat → Prop} {W wr w' : World} {D B F : Nat} {fs : List FT} {path : List Int} {k : Nat} {cur : FT} {xo : Option Addr} {xc : Nat} {lst : List FT} {lo : Option Addr} {lc : Nat} (h : AtI S W wr D B F fs path k cur xo xc lst lo lc) (hS : ∀ b, S b → b < W.heap.size) (hF : W.heap.size ≤ F) (hBF : B ≠ F)
    {f : FT} {yo : Option Addr} {yc : Nat} (hk : Keeps wr w' (fun b => b = F)) (hb : w'.heap[F]? = some (.cells #[.string f.name, .bool f.nul, .int .i64 f.kind, .int .i64 f.width, .int .i64 f.id, .int .i64 f.index, .slice yo f.kids.length yc] 47)) (hr : RowAt S wr D yo f.kids) (hle : f.kids.length ≤ yc) (hrest : atGo cur lst (path.drop k) = atGo f f.kids (path.drop (k + 1))) : AtI S W w' D B F fs path (k + 1) f yo yc f.kids yo yc := by
  have hSk : KpOf S wr w' := fun b hb => hk.block b (by have := hS b hb; have := h.g.size; omega) (by have := hS b hb; omega)
  exact ⟨h.g.trans hk (fun j hj e => by omega), h.rest.trans hrest, hb, (hk.block B (lt_of_heap h.res) (fun e => hBF e)).trans h.res, hr.kept hSk, hle, hr.kept hSk, hle⟩

theorem at_gen {S : Nat → Prop} {D : Nat} {fo no po : Option Addr} {cf nn cn pc : Nat} {fs : List FT} {path : List Int} {er : Int} {w : World} (h : Ans 56 #[.agg #[.slice fo fs.length cf, .slice no nn cn]] (er == 0) w) (hr : RowAt S w D fo fs) (hcf : fs.length ≤ cf) (hS : ∀ b, S b → b < w.heap.size) (hp : ZsAt w po path) (hpl : path.length ≤ big) :
    ∀ W, Gr w W → Calls Tryz.prog 34 #[.agg #[.slice fo fs.length cf, .slice no nn cn], .slice po path.length pc] W (AtQ W D (atR er fs path)) := by
  intro W g
  have HL := hidM (h.gr g)
  have HRow : Hid (RowAt S W D fo fs) := hr.kept fun b hb => g.block b (hS b hb) id
  have HS : Hid (∀ b, S b → b < W.heap.size) := fun b hb => by have := hS b hb; have := g.size; omega
  have HP := hidM (hp.gr g)
  have hfl' : fs.length ≤ 1000000000000 := hr.len
  have hpl' : path.length ≤ 1000000000000 := hpl
  clear h hr hS hp hpl g
  obtain ⟨L, hL⟩ : ∃ L, L = fs.length := ⟨_, rfl⟩
  obtain ⟨T, hT⟩ : ∃ T, T = path.length := ⟨_, rfl⟩
  rw [← hL] at HL hcf hfl' ⊢
  rw [← hT] at hpl' ⊢
  have HLL := hidM hL
  have HTT := hidM hT
  clear hL hT
  obtain ⟨R, hR⟩ : ∃ R, R = atR er fs path := ⟨_, rfl⟩
  rw [← hR]
  have HR := hidM hR
  clear hR
  unfold Ans at HL
  obtain ⟨W0, hW0⟩ : ∃ W0, (W.alloc (.cells #[.slice fo L cf, .slice no nn cn] 30)).alloc (.cells #[.string ⟨#[]⟩, .bool false, .int .i64 0, .int .i64 0, .int .i64 0, .int .i64 0, .slice none 0 0] 47) = W0 := ⟨_, rfl⟩
  have hg0 : Gr W W0 := by rw [← hW0]; exact (gr_alloc W _).alloc _
  have x1 : W0.heap[W.heap.size]? = some (.cells #[.slice fo L cf, .slice no nn cn] 30) := by
    rw [← hW0]; exact (Below.heap_alloc _ _ _ (by simp)).trans (World.alloc_heap_new W _)
  have x2 : W0.heap[W.heap.size + 1]? = some (.cells #[.string ⟨#[]⟩, .bool false, .int .i64 0, .int .i64 0, .int .i64 0, .int .i64 0, .slice none 0 0] 47) := by
    rw [← hW0]
    have := World.alloc_heap_new (W.alloc (.cells #[.slice fo L cf, .slice no nn cn] 30)) (.cells #[.string ⟨#[]⟩, .bool false, .int .i64 0, .int .i64 0, .int .i64 0, .int .i64 0, .slice none 0 0] 47)
    rw [World.size_alloc] at this
    exact this
  have HX := hidM (And.intro hg0 (And.intro x1 x2))
  obtain ⟨p0, p1⟩ := cell2 x1
  clear x1 x2 hg0
  go_enter Tryz.func34, Tryz.ntmps34
  go_wp2_with (go_at_call 56; refine Hid.out ?_)
  unfold Hid
  try rw [hW0]
  refine Calls.mono (HL.out _ HX.out.1) ?_
  rintro e W1 ⟨rfl, hg1⟩
  have y1 := (hg1.block _ (lt_of_heap HX.out.2.1) id).trans HX.out.2.1
  have y2 := (hg1.block _ (lt_of_heap HX.out.2.2) id).trans HX.out.2.2
  have HY := hidM (And.intro (HX.out.1.trans hg1 (fun _ _ h => h)) (And.intro y1 y2))
  have hB : W.heap.size + 1 < W1.heap.size := lt_of_heap y2
  obtain ⟨B, hBe⟩ : ∃ B, B = W.heap.size + 1 := ⟨_, rfl⟩
  have HBe := hidM hBe
  have q0 : W1.cell? ⟨W.heap.size, 0, none⟩ = some (.slice fo L cf) := by simp [World.cell?, y1]
  rw [← hBe] at y2 HY hB
  obtain ⟨r0, r1, r2, r3, r4, r5, r6⟩ := cell7 y2
  have z0 := frz y2 0
  have z1 := frz y2 1
  have z2 := frz y2 2
  have z3 := frz y2 3
  have z4 := frz y2 4
  have z5 := frz y2 5
  have z6 := frz y2 6
  simp only [Nat.zero_add] at r1 r2 r3 r4 r5 r6
  rw [← hBe]
  clear p0 p1 hW0 y1 y2 hg1 HL HX hBe
  have HZ : Hid (∀ (w2 : World) (c : Int), R = (c, zFT) → Gr W w2 → w2.heap[B]? = some (.cells #[.string ⟨#[]⟩, .bool false, .int .i64 0, .int .i64 0, .int .i64 0, .int .i64 0, .slice none 0 0] 47) → ∃ w3, w3 = (((((((w2.setCell ⟨B, 0, none⟩ (.string ⟨#[]⟩)).setCell ⟨B, 1, none⟩ (.bool false)).setCell ⟨B, 2, none⟩ (.int .i64 0)).setCell ⟨B, 3, none⟩ (.int .i64 0)).setCell ⟨B, 4, none⟩ (.int .i64 0)).setCell ⟨B, 5, none⟩ (.int .i64 0)).setCell ⟨B, 6, none⟩ (.slice none 0 0)) ∧ w3.heap[B]? = some (.cells #[.string ⟨#[]⟩, .bool false, .int .i64 0, .int .i64 0, .int .i64 0, .int .i64 0, .slice none 0 0] 47) ∧ AtQ W D R (.returned (.tuple #[.agg #[.string ⟨#[]⟩, .bool false, .int .i64 0, .int .i64 0, .int .i64 0, .int .i64 0, .slice none 0 0], .int .i64 c])) w3) := fun w2 c hc hg hb => by
    have s7 := set7 (.string ⟨#[]⟩) (.bool false) (.int .i64 0) (.int .i64 0) (.int .i64 0) (.int .i64 0) (.slice none 0 0) hb
    exact ⟨_, rfl, s7.1, AtQ.zero hc (hg.trans s7.2 (fun j hj e => by have := HBe.out; omega))⟩
  by_cases h0 : er = 0
  · subst h0
    by_cases hT0 : T = 0
    · subst hT0
      have hpn : path = [] := List.eq_nil_of_length_eq_zero HTT.out.symm
      have HE := hidM (HZ.out W1 1 (by rw [HR.out, hpn]; simp [atR]) HY.out.1 HY.out.2.2)
      clear hpn
      go_wp2
      obtain ⟨w3, hw3, hb3, hq3⟩ := HE.out
      rw [← hw3]
      obtain ⟨v0, v1, v2, v3, v4, v5, v6⟩ := cell7 hb3
      simp only [Nat.zero_add] at v1 v2 v3 v4 v5 v6
      refine bodyPost_ret (v := .tuple #[.agg #[.string ⟨#[]⟩, .bool false, .int .i64 0, .int .i64 0, .int .i64 0, .int .i64 0, .slice none 0 0], .int .i64 1]) ?_ rfl hq3
      simp [results, Tryz.f34, go_sem, v0, v1, v2, v3, v4, v5, v6]
    · have hTz := beqZ (a := (T : Int)) (b := 0) (by omega)
      have HRR : Hid (∀ o, atGo zFT fs path = o → R = match o with | none => (2, zFT) | some f => (0, f)) := fun o ho => by
        rw [HR.out, ← ho]
        have : path ≠ [] := fun e => hT0 (by rw [HTT.out, e]; rfl)
        simp [atR, this]
      have HI0 : Hid (AtI S W (W1.alloc (.cells #[.string ⟨#[]⟩, .bool false, .int .i64 0, .int .i64 0, .int .i64 0, .int .i64 0, .slice none 0 0] 47)) D B W1.heap.size fs path 0 zFT none 0 fs fo cf) := by
        refine ⟨HY.out.1.alloc _, rfl, World.alloc_heap_new W1 _, (Below.heap_alloc W1 _ _ hB).trans HY.out.2.2, ?_, ?_, row_none _ _ _ _, Nat.le_refl _⟩
        · exact HRow.out.kept fun b hb => (HY.out.1.alloc _).block b (HS.out b hb) id
        · rw [← HLL.out]; exact hcf
      have q0' := fun (o : Obj) => (gr_alloc W1 o).cell' q0 id
      clear z0 z1 z2 z3 z4 z5 z6 r0 r1 r2 r3 r4 r5 r6
      go_wp2
      obtain ⟨F, hF⟩ : ∃ F, F = W1.heap.size := ⟨_, rfl⟩
      rw [← hF] at HI0 ⊢
      have HBF : Hid (B ≠ F ∧ W.heap.size ≤ F) := ⟨by omega, by have := HY.out.1.size; omega⟩
      clear hF hB q0 q0'
      go_loopw [7, 22] (fun v p wr => ∃ (k n : Nat) (cur : FT) (xo : Option Addr) (xc : Nat) (lst : List FT) (lo : Option Addr) (lc : Nat), k ≤ T ∧ n ≤ 1000000000000 ∧ n ≤ lc ∧ v = .slice lo n lc ∧ p = .int .i64 (k : Int) ∧ Hid (n = lst.length ∧ AtI S W wr D B F fs path k cur xo xc lst lo lc)) (fun _ p _ => T - (intOf p).toNat)
      case atStart => exact ⟨0, L, zFT, none, 0, fs, fo, cf, by omega, hfl', hcf, rfl, rfl, HLL.out, HI0.out⟩
      case round =>
        clear HI0
        obtain ⟨k, n, cur, xo, xc, lst, lo, lc, hk, hn, hnlc, rfl, rfl, HK⟩ := hrel
        by_cases hlt : k < T
        · have hkl : k < path.length := by have := HTT.out; omega
          obtain ⟨b, o, rfl, hcs⟩ := HP.out (fun e => by subst e; simp at hkl)
          have g0 := HK.out.2.g.cell' (hcs k hkl) id
          have hdrop : path.drop k = path[k] :: path.drop (k + 1) := List.drop_eq_getElem_cons hkl
          obtain ⟨i, hi⟩ : ∃ i, i = path[k]'hkl := ⟨_, rfl⟩
          rw [← hi] at g0 hdrop
          have HDrop := hidM hdrop
          have hltI : (k : Int) < (T : Int) := by omega
          clear hcs hi hdrop hkl
          have HOut : Hid (¬ (0 ≤ i ∧ i < (n : Int)) → R = (2, zFT)) := fun hno => by
            refine HRR.out none ?_
            rw [HK.out.2.rest, HDrop.out, atGo, if_neg (by rw [← HK.out.1]; exact hno)]
          obtain ⟨s0, s1, s2, s3, s4, s5, s6⟩ := cell7 HK.out.2.res
          simp only [Nat.zero_add] at s1 s2 s3 s4 s5 s6
          have z0 := frz HK.out.2.res 0
          have z1 := frz HK.out.2.res 1
          have z2 := frz HK.out.2.res 2
          have z3 := frz HK.out.2.res 3
          have z4 := frz HK.out.2.res 4
          have z5 := frz HK.out.2.res 5
          have z6 := frz HK.out.2.res 6
          by_cases hneg : i < 0
          · have HE := hidM (HZ.out wr 2 (HOut.out (by omega)) HK.out.2.g HK.out.2.res)
            go_wp2
            obtain ⟨w3, hw3, hb3, hq3⟩ := HE.out
            rw [← hw3]
            obtain ⟨v0, v1, v2, v3, v4, v5, v6⟩ := cell7 hb3
            simp only [Nat.zero_add] at v1 v2 v3 v4 v5 v6
            refine bodyPost_ret (v := .tuple #[.agg #[.string ⟨#[]⟩, .bool false, .int .i64 0, .int .i64 0, .int .i64 0, .int .i64 0, .slice none 0 0], .int .i64 2]) ?_ rfl hq3
            simp [results, Tryz.f34, go_sem, v0, v1, v2, v3, v4, v5, v6]
          · by_cases hbig : (n : Int) ≤ i
            · have HE := hidM (HZ.out wr 2 (HOut.out (by omega)) HK.out.2.g HK.out.2.res)
              go_wp2
              obtain ⟨w3, hw3, hb3, hq3⟩ := HE.out
              rw [← hw3]
              obtain ⟨v0, v1, v2, v3, v4, v5, v6⟩ := cell7 hb3
              simp only [Nat.zero_add] at v1 v2 v3 v4 v5 v6
              refine bodyPost_ret (v := .tuple #[.agg #[.string ⟨#[]⟩, .bool false, .int .i64 0, .int .i64 0, .int .i64 0, .int .i64 0, .slice none 0 0], .int .i64 2]) ?_ rfl hq3
              simp [results, Tryz.f34, go_sem, v0, v1, v2, v3, v4, v5, v6]
            · obtain ⟨j, rfl⟩ : ∃ j : Nat, i = (j : Int) := ⟨i.toNat, by omega⟩
              have hjn : j < n := by omega
              have hjl : j < lst.length := by have := HK.out.1; omega
              have hrow := HK.out.2.row
              obtain ⟨d, rfl⟩ : ∃ d, D = d + 1 := by
                cases D with
                | zero => have : lst = [] := hrow; rw [this] at hjl; simp at hjl
                | succ d => exact ⟨d, rfl⟩
              obtain ⟨b', o', rfl, _, hcs⟩ := hrow.2 (fun e => by subst e; simp at hjl)
              obtain ⟨yo, yc, hc, hle', hr'⟩ := hcs j hjl
              obtain ⟨c0, c1, c2, c3, c4, c5, c6⟩ := hc
              obtain ⟨f, hf⟩ : ∃ f, f = lst[j]'hjl := ⟨_, rfl⟩
              rw [← hf] at c0 c1 c2 c3 c4 c5 c6 hle' hr'
              have hjI : (j : Int) < (n : Int) := by omega
              have hyl : f.kids.length ≤ 1000000000000 := hr'.len
              have hbx := HK.out.2.box
              have s7 := set7 (.string f.name) (.bool f.nul) (.int .i64 f.kind) (.int .i64 f.width) (.int .i64 f.id) (.int .i64 f.index) (.slice yo f.kids.length yc) hbx
              have HN := hidM (HK.out.2.keep (f := f) (yo := yo) (yc := yc) HS.out HBF.out.2 HBF.out.1 s7.2 s7.1 hr'.up hle' (by
                have hb : lst[j]! = f := by rw [hf]; exact getElem!_pos lst j hjl
                rw [HDrop.out, atGo, if_pos (by rw [← HK.out.1]; omega)]
                simp [hb]))
              obtain ⟨t0, t1, t2, t3, t4, t5, t6⟩ := cell7 hbx
              simp only [Nat.zero_add] at t1 t2 t3 t4 t5 t6
              have e0 := frz hbx 0
              have e1 := frz hbx 1
              have e2 := frz hbx 2
              have e3 := frz hbx 3
              have e4 := frz hbx 4
              have e5 := frz hbx 5
              have e6 := frz hbx 6
              clear s0 s1 s2 s3 s4 s5 s6 z0 z1 z2 z3 z4 z5 z6 hcs hrow hr' hbx s7 HK hf hneg hbig HOut
              go_wp2
              go_roundw
              case rel => exact ⟨k + 1, _, f, yo, yc, f.kids, yo, yc, by omega, hyl, hle', rfl, by simp, rfl, HN.out⟩
              case measure => simp [intOf]; omega
        · have hkT : k = T := by omega
          subst hkT
          have hcur : R = (0, cur) := by
            refine HRR.out (some cur) ?_
            rw [HK.out.2.rest, List.drop_of_length_le (by have := HTT.out; omega)]
            rfl
          have HC := hidM hcur
          clear hcur
          have hbx := HK.out.2.box
          have hcall : Calls Tryz.prog 57 #[.agg #[.int .i64 cur.kind, .int .i64 cur.width, .int .i64 cur.id, .int .i64 cur.index, .slice xo cur.kids.length xc]] wr fun e w' => ∃ vo vc, e = .returned (.agg #[.int .i64 cur.kind, .int .i64 cur.width, .int .i64 cur.id, .int .i64 cur.index, .slice vo cur.kids.length vc]) ∧ CopQ wr D cur.kids.length cur.kids vo vc w' :=
            copiedType_walk _ _ _ _ xo cur.kids.length xc D cur.kids wr fun W'' g'' => copied_any D S W'' xo xc cur.kids (HK.out.2.krow.kept fun b hb => g''.block b (by have := HS.out b hb; have := HK.out.2.g.size; omega) id) (fun b hb => by have := HS.out b hb; have := HK.out.2.g.size; have := g''.size; omega)
          have HCall := hidM hcall
          obtain ⟨t0, t1, t2, t3, t4, t5, t6⟩ := cell7 hbx
          simp only [Nat.zero_add] at t1 t2 t3 t4 t5 t6
          have HKK := hidM (And.intro HK.out.2.g (And.intro hbx HK.out.2.res))
          clear hbx hcall HK hlt
          go_wp2_with (go_at_call 57; refine Hid.out ?_)
          unfold Hid
          refine Calls.mono HCall.out ?_
          rintro e w2 ⟨yo, yc, rfl, hq⟩
          have hbx := (hq.g.block _ (lt_of_heap HKK.out.2.1) id).trans HKK.out.2.1
          have hrs := (hq.g.block _ (lt_of_heap HKK.out.2.2) id).trans HKK.out.2.2
          have HFl : Hid (F < wr.heap.size ∧ B < wr.heap.size) := ⟨lt_of_heap HKK.out.2.1, lt_of_heap HKK.out.2.2⟩
          obtain ⟨w3, hw3⟩ : ∃ w3, w3 = ((((w2.setCell ⟨F, 2, none⟩ (.int .i64 cur.kind)).setCell ⟨F, 3, none⟩ (.int .i64 cur.width)).setCell ⟨F, 4, none⟩ (.int .i64 cur.id)).setCell ⟨F, 5, none⟩ (.int .i64 cur.index)).setCell ⟨F, 6, none⟩ (.slice yo cur.kids.length yc) := ⟨_, rfl⟩
          have hk3 : Keeps w2 w3 (fun b => b = F) := by rw [hw3]; exact keep1 (keep1 (keep1 (keep1 (keep1 (Keeps.refl w2 _) _) _) _) _) _
          have hb3 : w3.heap[F]? = some (.cells #[.string cur.name, .bool cur.nul, .int .i64 cur.kind, .int .i64 cur.width, .int .i64 cur.id, .int .i64 cur.index, .slice yo cur.kids.length yc] 47) := by
            rw [hw3, setc (j := 6) (setc (j := 5) (setc (j := 4) (setc (j := 3) (setc (j := 2) hbx _) _) _) _) _]; simp
          have hr3 := (hk3.block B (lt_of_heap hrs) (fun e => HBF.out.1 e)).trans hrs
          have s7 := set7 (.string cur.name) (.bool cur.nul) (.int .i64 cur.kind) (.int .i64 cur.width) (.int .i64 cur.id) (.int .i64 cur.index) (.slice yo cur.kids.length yc) hr3
          have HE : Hid (∃ w4, w4 = (((((((w3.setCell ⟨B, 0, none⟩ (.string cur.name)).setCell ⟨B, 1, none⟩ (.bool cur.nul)).setCell ⟨B, 2, none⟩ (.int .i64 cur.kind)).setCell ⟨B, 3, none⟩ (.int .i64 cur.width)).setCell ⟨B, 4, none⟩ (.int .i64 cur.id)).setCell ⟨B, 5, none⟩ (.int .i64 cur.index)).setCell ⟨B, 6, none⟩ (.slice yo cur.kids.length yc)) ∧ w4.heap[B]? = some (.cells #[.string cur.name, .bool cur.nul, .int .i64 cur.kind, .int .i64 cur.width, .int .i64 cur.id, .int .i64 cur.index, .slice yo cur.kids.length yc] 47) ∧ AtQ W D R (.returned (.tuple #[.agg #[.string cur.name, .bool cur.nul, .int .i64 cur.kind, .int .i64 cur.width, .int .i64 cur.id, .int .i64 cur.index, .slice yo cur.kids.length yc], .int .i64 0])) w4) := by
            refine ⟨_, rfl, s7.1, ?_⟩
            rw [HC.out]
            have kall : Keeps w2 _ (fun b => b = F ∨ b = B) := (hk3.mono fun _ _ h => .inl h).trans (s7.2.mono fun _ _ h => Or.inr h) (fun _ _ h => h)
            have hsz := kall.size
            refine ⟨yo, yc, rfl, (HKK.out.1.trans hq.g (fun _ _ h => h)).trans kall (fun j hj e => by have := HBe.out; have := HBF.out.2; omega), hq.le, ?_⟩
            exact (hq.row.kept fun b hb => kall.block b hb.2 (by have := hb.1; have := HFl.out; omega)).mono fun b hb => by have := hb.2; omega
          obtain ⟨t0, t1, t2, t3, t4, t5, t6⟩ := cell7 hbx
          obtain ⟨a0, a1, a2, a3, a4, a5, a6⟩ := cell7 hb3
          obtain ⟨s0, s1, s2, s3, s4, s5, s6⟩ := cell7 hr3
          simp only [Nat.zero_add] at t1 t2 t3 t4 t5 t6 s1 s2 s3 s4 s5 s6 a1 a2 a3 a4 a5 a6
          have y2 := frz hbx 2
          have y3 := frz hbx 3
          have y4 := frz hbx 4
          have y5 := frz hbx 5
          have y6 := frz hbx 6
          have z0 := frz hr3 0
          have z1 := frz hr3 1
          have z2 := frz hr3 2
          have z3 := frz hr3 3
          have z4 := frz hr3 4
          have z5 := frz hr3 5
          have z6 := frz hr3 6
          replace hw3 := hw3.symm
          clear hbx hrs s7 hb3 hr3 hk3 hq HCall
          go_wp2_with fail
          obtain ⟨w4, hw4, hb4, hq4⟩ := HE.out
          try rw [hw3]
          rw [← hw4]
          obtain ⟨v0, v1, v2, v3, v4, v5, v6⟩ := cell7 hb4
          simp only [Nat.zero_add] at v1 v2 v3 v4 v5 v6
          refine bodyPost_ret (v := .tuple #[.agg #[.string cur.name, .bool cur.nul, .int .i64 cur.kind, .int .i64 cur.width, .int .i64 cur.id, .int .i64 cur.index, .slice yo cur.kids.length yc], .int .i64 0]) ?_ rfl hq4
          simp [results, Tryz.f34, go_sem, v0, v1, v2, v3, v4, v5, v6]
  · have hz := beqZ h0
    have HE := hidM (HZ.out W1 5 (by rw [HR.out]; simp [atR, h0]) HY.out.1 HY.out.2.2)
    go_wp2
    obtain ⟨w3, hw3, hb3, hq3⟩ := HE.out
    rw [← hw3]
    obtain ⟨v0, v1, v2, v3, v4, v5, v6⟩ := cell7 hb3
    simp only [Nat.zero_add] at v1 v2 v3 v4 v5 v6
    refine bodyPost_ret (v := .tuple #[.agg #[.string ⟨#[]⟩, .bool false, .int .i64 0, .int .i64 0, .int .i64 0, .int .i64 0, .slice none 0 0], .int .i64 5]) ?_ rfl hq3
    simp [results, Tryz.f34, go_sem, v0, v1, v2, v3, v4, v5, v6]
end Go.Proofs.YteggcdhibcjneaaGreatDoor.Kd
