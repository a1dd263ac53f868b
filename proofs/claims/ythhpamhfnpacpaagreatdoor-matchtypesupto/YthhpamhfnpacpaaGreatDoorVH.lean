import Derived.Test.YthhpamhfnpacpaaGreatDoorLL
import Derived.Deep.Slices
import Derived.Test.YthhpamhfnpacpaaGreatDoorRows
import Derived.ProofKit
import Derived.OpenShut
import Derived.ChangeOld
import Derived.Below
import Derived.Lib.LaidTab
import Derived.Lib.LaidU8
import Derived.Deep.DeepHandedRow
import Derived.OrdersIn
import Derived.OrdersHeld
import Derived.Lib.ValidU
set_option linter.unusedVariables false
set_option linter.unusedSimpArgs false
set_option maxRecDepth 100000
set_option maxHeartbeats 8000000
namespace Go.Proofs.YthhpamhfnpacpaaGreatDoor.Kit
open Go.RowKit Go.Shelf Go.Deep
theorem nodes_path : ∀ (d : Nat) (l : List FT) (path : List Nat) (inD : Bool) (x : LS), x ∈ nodes d l path inD → path.length < x.path.length
 | 0, _, _, _, _, h => by simp [nodes] at h
 | d + 1, l, path, inD, x, h => by
  rw [nodes] at h
  obtain ⟨i, _, hi⟩ := List.mem_flatMap.1 h
  rcases List.mem_cons.1 hi with rfl | hi
  ·simp
  have := nodes_path d _ _ _ x hi
  simp at this
  omega
theorem FaultIs.way {d : Nat} {fs : List FT} {er : Int} {p : List Nat} {k : Int} (h : FaultIs (0, 0) (nodes d fs [] false) er p k) : (er = 0 → p = []) ∧ (er ≠ 0 → p ≠ []) := by
 rcases h with ⟨a, _⟩ | ⟨_, _, rfl, rfl, _⟩ | ⟨_, L, x, h1, _, h3, rfl, rfl, _⟩
 ·exact absurd rfl a
 ·exact ⟨fun _ => rfl, fun h => absurd rfl h⟩
 refine ⟨fun h => absurd h h3, fun _ e => ?_⟩
 have := nodes_path d fs [] false x (h1.subset (by simp))
 rw [e] at this
 simp at this
theorem ints_tail {W W' : World} {vo vo' : Option Addr} {vn vc : Nat} {p : List Nat} (h : W.ownsRow 0 3 1 (.slice vo vn vc) vn (ints p)) (hl : p.length = vn) (hk : ∀ q c, q < W.heap.size → W.heap[q]? = some (.cells c 3) → W'.heap[q]? = W.heap[q]?)
  (hv : ∃ g, vo = some ⟨g, 0, none⟩ ∧ (1 < vn → vo' = some ⟨g, 1, none⟩)) : IntsAt W' vo' p.tail := by
 intro hne
 have hlt : 1 < vn := by
  cases p with
  | nil => simp at hne
  | cons a t => cases t with
   | nil => simp at hne
   | cons b t => simp at hl; omega
 obtain ⟨g, rfl, hv⟩ := hv
 refine ⟨g, 1, hv hlt, fun j hj => ?_⟩
 have hg : W'.heap[g]? = W.heap[g]? := by
  rcases h.2 with ⟨e, _⟩ | ⟨g', cap, cur, e, _, hgg, _⟩
  ·cases e
  cases e
  exact hk g cur (Array.getElem?_eq_some_iff.1 hgg).1 hgg
 have hj' : j + 1 < p.length := by simp at hj; omega
 rw [World.cell?_of_block (w := W) hg, h.cellAt (1 + j) (by omega)]
 simp [ints, Nat.add_comm 1 j, hj']
def FieldR (W : World) (N : List LS) (e : Ending) (w' : World) : Prop := ∃ er p vo vc tt, e = .returned (.agg #[.int .i64 er, .slice vo p.tail.length vc, .int .i64 tt]) ∧ Gr W w' ∧ FaultIs (0, 0) N er p tt ∧ IntsAt w' vo p.tail
theorem CutR.field {w w' : World} {N : List LS} {e : Ending} (h : CutR w (FaultQ (0, 0) N) e w') : FieldR w N e w' := by
 obtain ⟨er, vo, vn, vc, tt, A, vo', vn', vc', ⟨p, h1, h2, h3⟩, rfl, hg, hk, h⟩ := h
 rcases h with ⟨h0, rfl, rfl, rfl⟩ | ⟨hp, g, e1, rfl, e3⟩
 ·obtain rfl : p = [] := List.eq_nil_of_length_eq_zero (by omega)
  subst h0
  exact ⟨er, [], vo', vc', tt, rfl, hg, h2, fun h => absurd rfl h⟩
 refine ⟨er, p, vo', vc', tt, ?_, hg, h2, ints_tail h3 h1 hk ⟨g, e1, e3⟩⟩
 rw [List.length_tail, h1]
theorem own_pos {W : World} {vo : Option Addr} {vn vc : Nat} {xs : List Value} (h : W.ownsRow 0 3 1 (.slice vo vn vc) vn xs) : vn ≤ vc ∧ (0 < vn → ∃ g, vo = some ⟨g, 0, none⟩) := by
 rcases h.2 with ⟨e, h0⟩ | ⟨g, cap, cur, e, _, _, h1, _⟩
 ·subst h0; exact ⟨Nat.zero_le _, fun h => absurd h (Nat.lt_irrefl 0)⟩
 cases e; exact ⟨h1, fun _ => ⟨g, rfl⟩⟩
theorem notes_none (W : World) : NotesAt W none [] := ⟨by simp [big], fun h => absurd rfl h⟩
theorem checkField_any (S : Nat → Prop) (d : Nat) (f : FT) (ao : Option Addr) (ca : Nat) (w : World) (hT : Tab w) (hr : RowAt S w d ao f.kids) (hca : f.kids.length ≤ ca) (hd : d + 1 ≤ big) (hS : ∀ b, S b → b < w.heap.size) :
  Calls Tryz.prog 109 #[.agg #[.string f.name, .bool f.nul, .int .i64 f.kind, .int .i64 f.width, .int .i64 f.id, .int .i64 f.index, .slice ao f.kids.length ca]] w (FieldR w (nodes (d + 1) [f] [] false)) := by
 refine Calls.mono (checkField_walk _ _ _ _ _ _ _ _ _ w (FaultQ (0, 0) (nodes (d + 1) [f] [] false)) ?_ ?_) fun e w' h => h.field
 ·intro W g gW hg hx
  have hrow := row_alone hx (hr.kept fun b h => gW.block b (hS b h) id) hca
  have h := check_fault (w := W) (fo := some ⟨g, 0, none⟩) (no := none) (cf := 1) (cn := 0) (fs := [f]) (ns := []) (hT.gr gW) hrow (by simp) hd (fun c h => h.elim (fun h => Nat.lt_of_lt_of_le (hS c h) gW.size) fun h => by rw [h]; exact lt_of_heap hx) (notes_none W) W (Keeps.refl _ _)
  exact h
 rintro er vo vn vc tt A ⟨p, h1, h2, h3⟩
 have h4 := own_pos h3
 refine ⟨h4.1, fun h => by rw [← h1, h2.way.1 h]; rfl, fun h => ?_⟩
 have : 0 < vn := by rw [← h1]; exact List.length_pos_iff.2 (h2.way.2 h)
 exact ⟨this, h4.2 this⟩
attribute [local go_sem] run_store_func
theorem first_upto (N : List LS) (k : Nat) (hk : k ≤ N.length) : AllR (N.take k) ∨ ∃ L x, (L ++ [x]) <+: N ∧ AllR L ∧ wrongE x L.length (tkL L) ≠ 0 := by
 induction k with
 | zero => exact .inl (by simpa using AllR.nil)
 | succ k ih =>
  rcases ih (by omega) with h | h
  ·have hkl : k < N.length := by omega
   have hl : (N.take k).length = k := by rw [List.length_take]; omega
   by_cases hx : wrongE N[k] k (tkL (N.take k)) = 0
   ·exact .inl (AllR.next hkl h hx)
   refine .inr ⟨N.take k, N[k], ?_, h, by rw [hl]; exact hx⟩
   rw [← List.take_succ_eq_append_getElem hkl]; exact List.take_prefix _ _
  exact .inr h
theorem first_or (N : List LS) : AllR N ∨ ∃ L x, (L ++ [x]) <+: N ∧ AllR L ∧ wrongE x L.length (tkL L) ≠ 0 := by
 have h := first_upto N N.length (Nat.le_refl _)
 rwa [List.take_length] at h
theorem fault_is (E : Int × Int) (N : List LS) : ∃ er p k, FaultIs E N er p k := by
 by_cases h : E.1 = 0
 ·rcases first_or N with h1 | ⟨L, x, h1, h2, h3⟩
  ·exact ⟨0, [], 0, .inr (.inl ⟨h, h1, rfl, rfl, rfl⟩)⟩
  exact ⟨_, _, 0, .inr (.inr ⟨h, L, x, h1, h2, h3, rfl, rfl, rfl⟩)⟩
 exact ⟨_, [], _, .inl ⟨h, rfl, rfl, rfl⟩⟩
def Tells (w : World) (F : Nat) (v : Value) (er : Int) (p : List Nat) (tt : Int) : Prop := ∀ W, Gr w W → Calls Tryz.prog F #[v] W fun e w' => ∃ vo vc, e = .returned (.agg #[.int .i64 er, .slice vo p.length vc, .int .i64 tt]) ∧ Gr W w' ∧ IntsAt w' vo p
end Go.Proofs.YthhpamhfnpacpaaGreatDoor.Kit
namespace Go.Proofs.YthhpamhfnpacpaaGreatDoor.Kit
open Go.RowKit Go.Shelf Go.Deep
theorem Tells.gr {F : Nat} {v : Value} {er : Int} {p : List Nat} {tt : Int} {w W : World} (h : Tells w F v er p tt) (g : Gr w W) : Tells W F v er p tt := fun W' g' => h W' (g.tr g')
theorem RowAt.up {S : Nat → Prop} {W : World} : ∀ {d : Nat} {ao : Option Addr} {l : List FT}, RowAt S W d ao l → RowAt S W (d + 1) ao l
 | 0, _, _, h => by
  have h' : _ = [] := h
  subst h'
  exact ⟨by simp [big], fun h => absurd rfl h⟩
 | d + 1, _, _, h => ⟨h.1, fun hn => by
  obtain ⟨b, o, e, hb, hi⟩ := h.2 hn
  refine ⟨b, o, e, hb, fun i hl => ?_⟩
  obtain ⟨ao', ca', hc, hle, hr⟩ := hi i hl
  exact ⟨ao', ca', hc, hle, RowAt.up hr⟩⟩
end Go.Proofs.YthhpamhfnpacpaaGreatDoor.Kit
namespace Go.Proofs.YthhpamhfnpacpaaGreatDoor.Kd
open Go.Proofs.YthhpamhfnpacpaaGreatDoor.Kit
open Go.RowKit Go.Shelf Go.Deep
attribute [local go_sem] run_store_func
def Ans (F : Nat) (args : Array Value) (b : Bool) (w : World) : Prop := ∀ W, Gr w W → Calls Tryz.prog F args W fun e w' => e = .returned (.bool b) ∧ Gr W w'
theorem Ans.gr {F : Nat} {args : Array Value} {b : Bool} {w W : World} (h : Ans F args b w) (g : Gr w W) : Ans F args b W := fun W' g' => h W' (g.tr g')
theorem beqZ {a b : Int} (h : ¬ a = b) : (a == b) = false := by simp [h]
theorem cell2 {W : World} {B t : Nat} {x y : Value} (h : W.heap[B]? = some (.cells #[x, y] t)) : W.cell? ⟨B, 0, none⟩ = some x ∧ W.cell? ⟨B, 1, none⟩ = some y := by simp [World.cell?, h]
theorem maybe_gen {fo no : Option Addr} {nf cf nn cn : Nat} {er tt : Int} {p : List Nat} {w : World} (h : Tells w 21 (.agg #[.slice fo nf cf, .slice no nn cn]) er p tt) :
  Ans 55 #[.agg #[.slice fo nf cf, .slice no nn cn]] (er == 0) w := by
 intro W g
 have HL := hidM (h.gr g)
 clear h g
 unfold Tells at HL
 have hfl : ∀ vo vn vc w, (Instr.field 52 (.agg #[.int .i64 er, .slice vo vn vc, .int .i64 tt]) 0).run Tryz.prog w = .ok (.int .i64 er) w := fun vo vn vc w => by kernel_rfl
 go_enter Tryz.func55, Tryz.ntmps55
 go_wp2_with (go_at_call 21; refine Hid.out ?_)
 unfold Hid
 refine Calls.mono (HL.out _ (gr_alloc W _)) ?_
 rintro e W1 ⟨vo, vc, rfl, hg1, -⟩
 have HE := hidM hg1
 clear hg1
 go_wp2_with fail
 go_ret
 exact ⟨rfl, (gr_alloc W _).tr HE.out⟩
noncomputable def z37 : Value := ((Tryz.prog.info? 58).bind (·.zero)).getD default
theorem c37 : z37.cells.size = 7 := by kernel_rfl
theorem info37 : (Tryz.prog.info? 58).map (fun i => (i.zero, i.size, i.bytes)) = some (some z37, 7, 80) := by kernel_rfl
def c7 (l : List FT) (F : Nat → Option Addr × Nat) (i t : Nat) : Value :=
 match t with
 | 0 => .string (l[i]!).name
 | 1 => .bool (l[i]!).nul
 | 2 => .int .i64 (l[i]!).kind
 | 3 => .int .i64 (l[i]!).width
 | 4 => .int .i64 (l[i]!).id
 | 5 => .int .i64 (l[i]!).index
 | _ => .slice (F i).1 (l[i]!).kids.length (F i).2
def row7 (l : List FT) (F : Nat → Option Addr × Nat) : List Value := (List.range (l.length * 7)).map fun j => c7 l F (j / 7) (j % 7)
theorem row7_len (l : List FT) (F : Nat → Option Addr × Nat) : (row7 l F).length = l.length * 7 := by simp [row7]
theorem row7_at {l : List FT} {F : Nat → Option Addr × Nat} {i t : Nat} (hi : i < l.length) (ht : t < 7) : (row7 l F)[i * 7 + t]? = some (c7 l F i t) := by
 have h1 : (i * 7 + t) / 7 = i := by omega
 have h2 : (i * 7 + t) % 7 = t := by omega
 have h3 : i * 7 + t < l.length * 7 := by omega
 simp [row7, h1, h2, h3]
theorem row7_cell {W : World} {b o : Nat} {l : List FT} {F : Nat → Option Addr × Nat} (h : ∀ i (hi : i < l.length), CellsAt W b (o + i * 7) l[i] (F i).1 (F i).2) (j : Nat) (u : Value) (hu : (row7 l F)[j]? = some u) : W.cell? ⟨b, o + j, none⟩ = some u := by
 have hj : j < l.length * 7 := by
  have := (List.getElem?_eq_some_iff.1 hu).1
  rwa [row7_len] at this
 obtain ⟨i, t, rfl, ht⟩ : ∃ i t, j = i * 7 + t ∧ t < 7 := ⟨j / 7, j % 7, by omega, by omega⟩
 have hi : i < l.length := by omega
 rw [row7_at hi ht] at hu
 have e := Option.some.inj hu
 subst e
 have hc := h i hi
 have hb : l[i]! = l[i] := getElem!_pos l i hi
 have k : t = 0 ∨ t = 1 ∨ t = 2 ∨ t = 3 ∨ t = 4 ∨ t = 5 ∨ t = 6 := by omega
 rcases k with rfl | rfl | rfl | rfl | rfl | rfl | rfl
 ·simpa [c7, hb, Nat.add_assoc] using hc.c0
 ·simpa [c7, hb, Nat.add_assoc] using hc.c1
 ·simpa [c7, hb, Nat.add_assoc] using hc.c2
 ·simpa [c7, hb, Nat.add_assoc] using hc.c3
 ·simpa [c7, hb, Nat.add_assoc] using hc.c4
 ·simpa [c7, hb, Nat.add_assoc] using hc.c5
 simpa [c7, hb, Nat.add_assoc] using hc.c6
theorem row7_one {l : List FT} {F : Nat → Option Addr × Nat} : ∀ u ∈ row7 l F, u.oneCell' = true := by
 intro u hu
 obtain ⟨j, _, rfl⟩ := List.mem_map.1 hu
 have k : j % 7 = 0 ∨ j % 7 = 1 ∨ j % 7 = 2 ∨ j % 7 = 3 ∨ j % 7 = 4 ∨ j % 7 = 5 ∨ j % 7 = 6 := by omega
 rcases k with h | h | h | h | h | h | h <;> rw [h] <;> rfl
theorem row7_own {W : World} {l : List FT} {F : Nat → Option Addr × Nat} {g n vc : Nat} (h : W.ownsRow 0 58 7 (.slice (some ⟨g, 0, none⟩) n vc) n (row7 l F)) (i : Nat) (hi : i < l.length) : CellsAt W g (i * 7) l[i] (F i).1 (F i).2 := by
 have hl := h.1
 rw [row7_len] at hl
 have hb : l[i]! = l[i] := getElem!_pos l i hi
 have k : ∀ t, t < 7 → W.cell? ⟨g, i * 7 + t, none⟩ = some (c7 l F i t) := fun t ht => by rw [h.cellAt (i * 7 + t) (by omega), row7_at hi ht]
 exact ⟨by simpa [c7, hb] using k 0 (by omega), by simpa [c7, hb] using k 1 (by omega), by simpa [c7, hb] using k 2 (by omega), by simpa [c7, hb] using k 3 (by omega), by simpa [c7, hb] using k 4 (by omega), by simpa [c7, hb] using k 5 (by omega), by simpa [c7, hb] using k 6 (by omega)⟩
theorem cell5 {W : World} {B t : Nat} {x0 x1 x2 x3 x4 : Value} (h : W.heap[B]? = some (.cells #[x0, x1, x2, x3, x4] t)) : W.cell? ⟨B, 0, none⟩ = some x0 ∧ W.cell? ⟨B, 1, none⟩ = some x1 ∧ W.cell? ⟨B, 2, none⟩ = some x2 ∧ W.cell? ⟨B, 3, none⟩ = some x3 ∧ W.cell? ⟨B, 4, none⟩ = some x4 := by simp [World.cell?, h]
def NewB (W W' : World) (b : Nat) : Prop := W.heap.size ≤ b ∧ b < W'.heap.size
structure CopQ (W : World) (d n : Nat) (l : List FT) (vo : Option Addr) (vc : Nat) (w' : World) : Prop where
 g : Gr W w'
 le : n ≤ vc
 row : RowAt (NewB W w') w' d vo l
theorem CopQ.kept {w W0 W1 W' : World} {S : Nat → Prop} {d n vc : Nat} {l : List FT} {vo : Option Addr} (hg : Gr w W0) (hq : CopQ W0 d n l vo vc W1) (k : Keeps W1 W' S) (hS : ∀ b, S b → w.heap.size ≤ b ∧ b < W0.heap.size) : CopQ w d n l vo vc W' := by
 refine ⟨(hg.tr hq.g).trans k (fun j hj h => by have := hS j h; omega), hq.le, ?_⟩
 exact (hq.row.kept fun b hb => k.block b hb.2 (fun h => by have := (hS b h).2; have := hb.1; omega)).mono (fun b hb => ⟨by have := hg.size; have := hb.1; omega, by have := hb.2; have := k.size; omega⟩)
theorem copiedType_walk (k d0 i x : Int) (ao : Option Addr) (n ca d : Nat) (l : List FT) (w : World) (h58 : ∀ W, Gr w W → Calls Tryz.prog 81 #[.slice ao n ca] W fun e w' => ∃ vo vc, e = .returned (.slice vo n vc) ∧ CopQ W d n l vo vc w') :
  Calls Tryz.prog 56 #[.agg #[.int .i64 k, .int .i64 d0, .int .i64 i, .int .i64 x, .slice ao n ca]] w fun e w' => ∃ vo vc, e = .returned (.agg #[.int .i64 k, .int .i64 d0, .int .i64 i, .int .i64 x, .slice vo n vc]) ∧ CopQ w d n l vo vc w' := by
 have H := hidM h58
 clear h58
 obtain ⟨W0, hW0⟩ := ex ((w.alloc (.cells #[.int .i64 k, .int .i64 d0, .int .i64 i, .int .i64 x, .slice ao n ca] 56)).alloc (.cells #[.int .i64 0, .int .i64 0, .int .i64 0, .int .i64 0, .slice none 0 0] 56))
 have hg0 : Gr w W0 := by rw [← hW0]; exact (gr_alloc w _).alloc _
 have hs0 : W0.heap.size = w.heap.size + 2 := by rw [← hW0]; simp
 have x1 : W0.heap[w.heap.size]? = some (.cells #[.int .i64 k, .int .i64 d0, .int .i64 i, .int .i64 x, .slice ao n ca] 56) := by
  rw [← hW0]; exact (Below.heap_alloc _ _ _ (by simp)).trans (World.alloc_heap_new w _)
 have x2 : W0.heap[w.heap.size + 1]? = some (.cells #[.int .i64 0, .int .i64 0, .int .i64 0, .int .i64 0, .slice none 0 0] 56) := by
  rw [← hW0]
  have := World.alloc_heap_new (w.alloc (.cells #[.int .i64 k, .int .i64 d0, .int .i64 i, .int .i64 x, .slice ao n ca] 56)) (.cells #[.int .i64 0, .int .i64 0, .int .i64 0, .int .i64 0, .slice none 0 0] 56)
  rw [World.size_alloc] at this
  exact this
 have p4 : W0.cell? ⟨w.heap.size, 4, none⟩ = some (.slice ao n ca) := by simp [World.cell?, x1]
 have HX := hidM (And.intro hg0 (And.intro hs0 (And.intro x1 x2)))
 clear x1 x2 hg0 hs0
 go_enter Tryz.func56, Tryz.ntmps56
 go_wp2_with (go_at_call 81; refine Hid.out ?_)
 unfold Hid
 try rw [hW0]
 refine Calls.mono (H.out _ HX.out.1) ?_
 rintro e W1 ⟨vo, vc, rfl, hq⟩
 have y1 := (hq.g.block _ (lt_of_heap HX.out.2.2.1) id).trans HX.out.2.2.1
 have y2 := (hq.g.block _ (lt_of_heap HX.out.2.2.2) id).trans HX.out.2.2.2
 have f1 := frz y1 4
 have q4 : W1.cell? ⟨w.heap.size, 4, none⟩ = some (.slice ao n ca) := by simp [World.cell?, y1]
 obtain ⟨W2, hW2⟩ := ex (W1.setCell ⟨w.heap.size, 4, none⟩ (.slice vo n vc))
 have z1 : W2.heap[w.heap.size]? = some (.cells #[.int .i64 k, .int .i64 d0, .int .i64 i, .int .i64 x, .slice vo n vc] 56) := by
  rw [← hW2, setc (j := 4) y1]; simp
 have z2 : W2.heap[w.heap.size + 1]? = some (.cells #[.int .i64 0, .int .i64 0, .int .i64 0, .int .i64 0, .slice none 0 0] 56) := by
  rw [← hW2, heap_setCell_other W1 _ _ _ (by simp)]; exact y2
 have a0 : W2.cell? ⟨w.heap.size, 0, none⟩ = some (.int .i64 k) := by simp [World.cell?, z1]
 have a1 : W2.cell? ⟨w.heap.size, 1, none⟩ = some (.int .i64 d0) := by simp [World.cell?, z1]
 have a2 : W2.cell? ⟨w.heap.size, 2, none⟩ = some (.int .i64 i) := by simp [World.cell?, z1]
 have a3 : W2.cell? ⟨w.heap.size, 3, none⟩ = some (.int .i64 x) := by simp [World.cell?, z1]
 have a4 : W2.cell? ⟨w.heap.size, 4, none⟩ = some (.slice vo n vc) := by simp [World.cell?, z1]
 have b0 : W2.cell? ⟨w.heap.size + 1, 0, none⟩ = some (.int .i64 0) := by simp [World.cell?, z2]
 have b1 : W2.cell? ⟨w.heap.size + 1, 1, none⟩ = some (.int .i64 0) := by simp [World.cell?, z2]
 have b2 : W2.cell? ⟨w.heap.size + 1, 2, none⟩ = some (.int .i64 0) := by simp [World.cell?, z2]
 have b3 : W2.cell? ⟨w.heap.size + 1, 3, none⟩ = some (.int .i64 0) := by simp [World.cell?, z2]
 have b4 : W2.cell? ⟨w.heap.size + 1, 4, none⟩ = some (.slice none 0 0) := by simp [World.cell?, z2]
 have fz := fun j => frz z2 j
 have g0 := fz 0
 have g1 := fz 1
 have g2 := fz 2
 have g3 := fz 3
 have g4 := fz 4
 have kk : Keeps W1 W2 (fun b => b = w.heap.size) := by rw [← hW2]; exact keep1 (j := 4) (Keeps.refl W1 (fun b => b = w.heap.size)) _
 have s0 := setc (j := 0) z2 (.int .i64 k)
 have s1 := setc (j := 1) s0 (.int .i64 d0)
 have s2 := setc (j := 2) s1 (.int .i64 i)
 have s3 := setc (j := 3) s2 (.int .i64 x)
 have s4 := setc (j := 4) s3 (.slice vo n vc)
 have kz : Keeps W2 _ (fun b => b = w.heap.size + 1) := keep1 (j := 4) (keep1 (j := 3) (keep1 (j := 2) (keep1 (j := 1) (keep1 (j := 0) (Keeps.refl W2 (fun b => b = w.heap.size + 1)) (.int .i64 k)) (.int .i64 d0)) (.int .i64 i)) (.int .i64 x)) (.slice vo n vc)
 have HE := hidM (And.intro s4 (And.intro kz (And.intro kk hq)))
 clear y1 y2 z1 z2 s0 s1 s2 s3 s4 kz kk hq fz
 go_wp2_with fail
 obtain ⟨s4, kz, kk, hq⟩ := HE.out
 have kall : Keeps W1 _ (fun b => b = w.heap.size ∨ b = w.heap.size + 1) := (kk.mono fun _ _ h => .inl h).tr (kz.mono fun _ _ h => Or.inr h)
 have hsz := HX.out.2.1
 have hfin := CopQ.kept HX.out.1 hq kall (fun b hb => by omega)
 obtain ⟨v0, v1, v2, v3, v4⟩ := cell5 (s4.trans (by simp : _ = some (Obj.cells #[.int .i64 k, .int .i64 d0, .int .i64 i, .int .i64 x, .slice vo n vc] 56 (0, 0))))
 refine bodyPost_ret (v := .agg #[.int .i64 k, .int .i64 d0, .int .i64 i, .int .i64 x, .slice vo n vc]) ?_ rfl ⟨vo, vc, rfl, hfin⟩
 simp [results, Tryz.f56, go_sem, v0, v1, v2, v3, v4]
structure CopI (W wr : World) (d : Nat) (l : List FT) (F : Nat → Option Addr × Nat) (g k : Nat) : Prop where
 gr : Gr W wr
 ge : W.heap.size ≤ g
 box : ∃ cur, wr.heap[g]? = some (.cells cur 58)
 new : ∀ i (h : i < l.length), i < k → ∃ ao' ca', CellsAt wr g (i * 7) l[i] ao' ca' ∧ l[i].kids.length ≤ ca' ∧ RowAt (fun b => NewB W wr b ∧ b ≠ g) wr d ao' l[i].kids
 old : ∀ i (h : i < l.length), k ≤ i → CellsAt wr g (i * 7) l[i] (F i).1 (F i).2
theorem cellsAt_set {W : World} {g o o' : Nat} {f : FT} {ao : Option Addr} {ca : Nat} {cur : Array Value} (hb : W.heap[g]? = some (.cells cur 58)) (h : CellsAt W g o f ao ca) (v0 v1 v2 v3 v4 : Value) (hne : ∀ t s, t < 7 → s < 5 → o + t ≠ o' + 2 + s) :
  CellsAt (((((W.setCell ⟨g, o' + 2, none⟩ v0).setCell ⟨g, o' + 3, none⟩ v1).setCell ⟨g, o' + 4, none⟩ v2).setCell ⟨g, o' + 5, none⟩ v3).setCell ⟨g, o' + 6, none⟩ v4) g o f ao ca := by
 have hk : ∀ t, t < 7 → (((((W.setCell ⟨g, o' + 2, none⟩ v0).setCell ⟨g, o' + 3, none⟩ v1).setCell ⟨g, o' + 4, none⟩ v2).setCell ⟨g, o' + 5, none⟩ v3).setCell ⟨g, o' + 6, none⟩ v4).cell? ⟨g, o + t, none⟩ = W.cell? ⟨g, o + t, none⟩ := fun t ht => by
  have n0 := hne t 0 ht (by omega)
  have n1 := hne t 1 ht (by omega)
  have n2 := hne t 2 ht (by omega)
  have n3 := hne t 3 ht (by omega)
  have n4 := hne t 4 ht (by omega)
  rw [World.cell?_setCell_other _ _ _ _ (by simp <;> omega), World.cell?_setCell_other _ _ _ _ (by simp <;> omega), World.cell?_setCell_other _ _ _ _ (by simp <;> omega), World.cell?_setCell_other _ _ _ _ (by simp <;> omega), World.cell?_setCell_other _ _ _ _ (by simp <;> omega)]
 exact ⟨(hk 0 (by omega)).trans h.c0, (hk 1 (by omega)).trans h.c1, (hk 2 (by omega)).trans h.c2, (hk 3 (by omega)).trans h.c3, (hk 4 (by omega)).trans h.c4, (hk 5 (by omega)).trans h.c5, (hk 6 (by omega)).trans h.c6⟩
theorem cellsAt_put {W : World} {g o : Nat} {f : FT} {ao ao' : Option Addr} {ca ca' : Nat} {cur : Array Value} (hb : W.heap[g]? = some (.cells cur 58)) (h : CellsAt W g o f ao ca) :
  CellsAt (((((W.setCell ⟨g, o + 2, none⟩ (.int .i64 f.kind)).setCell ⟨g, o + 3, none⟩ (.int .i64 f.width)).setCell ⟨g, o + 4, none⟩ (.int .i64 f.id)).setCell ⟨g, o + 5, none⟩ (.int .i64 f.index)).setCell ⟨g, o + 6, none⟩ (.slice ao' f.kids.length ca')) g o f ao' ca' := by
 have lt : ∀ {t : Nat} {v : Value}, W.cell? ⟨g, o + t, none⟩ = some v → o + t < cur.size := fun {t v} hc => by
  simp [World.cell?, hb] at hc
  exact (Array.getElem?_eq_some_iff.1 hc).1
 have l2 := lt h.c2
 have l3 := lt h.c3
 have l4 := lt h.c4
 have l5 := lt h.c5
 have l6 := lt h.c6
 have hbs := setc (j := o + 6) (setc (j := o + 5) (setc (j := o + 4) (setc (j := o + 3) (setc (j := o + 2) hb (.int .i64 f.kind)) (.int .i64 f.width)) (.int .i64 f.id)) (.int .i64 f.index)) (.slice ao' f.kids.length ca')
 have c0 := h.c0
 have c1 := h.c1
 simp [World.cell?, hb] at c0 c1
 refine ⟨?_, ?_, ?_, ?_, ?_, ?_, ?_⟩
 ·simp [World.cell?, hbs, c0]
 ·simp [World.cell?, hbs, c1]
 ·simp [World.cell?, hbs, l2]
 ·simp [World.cell?, hbs, l3]
 ·simp [World.cell?, hbs, l4]
 ·simp [World.cell?, hbs, l5]
 simp [World.cell?, hbs, l6]
theorem CopI.next {W wr w2 : World} {d : Nat} {l : List FT} {F : Nat → Option Addr × Nat} {g k vc : Nat} {vo : Option Addr} (h : CopI W wr d l F g k) (hk : k < l.length) (hq : CopQ wr d l[k].kids.length l[k].kids vo vc w2) :
  CopI W (((((w2.setCell ⟨g, k * 7 + 2, none⟩ (.int .i64 l[k].kind)).setCell ⟨g, k * 7 + 3, none⟩ (.int .i64 l[k].width)).setCell ⟨g, k * 7 + 4, none⟩ (.int .i64 l[k].id)).setCell ⟨g, k * 7 + 5, none⟩ (.int .i64 l[k].index)).setCell ⟨g, k * 7 + 6, none⟩ (.slice vo l[k].kids.length vc)) d l F g (k + 1) := by
 obtain ⟨cur, hb⟩ := h.box
 have hgl : g < wr.heap.size := lt_of_heap hb
 have hb2 := (hq.g.block g hgl id).trans hb
 have kz := keep1 (j := k * 7 + 6) (keep1 (j := k * 7 + 5) (keep1 (j := k * 7 + 4) (keep1 (j := k * 7 + 3) (keep1 (j := k * 7 + 2) (Keeps.refl w2 (fun b => b = g)) (.int .i64 l[k].kind)) (.int .i64 l[k].width)) (.int .i64 l[k].id)) (.int .i64 l[k].index)) (.slice vo l[k].kids.length vc)
 have hbs := setc (j := k * 7 + 6) (setc (j := k * 7 + 5) (setc (j := k * 7 + 4) (setc (j := k * 7 + 3) (setc (j := k * 7 + 2) hb2 (.int .i64 l[k].kind)) (.int .i64 l[k].width)) (.int .i64 l[k].id)) (.int .i64 l[k].index)) (.slice vo l[k].kids.length vc)
 have hsz := hq.g.size
 have hks := kz.size
 refine ⟨(h.gr.tr hq.g).trans kz (fun j hj e => by have := h.ge; omega), h.ge, ⟨_, hbs⟩, fun i hi hlt => ?_, fun i hi hle => ?_⟩
 ·by_cases e : i = k
  ·subst e
   refine ⟨vo, vc, cellsAt_put hb2 ((h.old i hi (Nat.le_refl _)).kept (hq.g.block g hgl id)), hq.le, ?_⟩
   refine (hq.row.kept fun b hb => kz.block b hb.2 (by have := hb.1; omega)).mono fun b hb => ⟨⟨by have := h.gr.size; have := hb.1; omega, by have := hb.2; omega⟩, by have := hb.1; omega⟩
  obtain ⟨ao', ca', h1, h2, h3⟩ := h.new i hi (by omega)
  refine ⟨ao', ca', cellsAt_set hb2 (h1.kept (hq.g.block g hgl id)) _ _ _ _ _ (fun t s ht hs => by omega), h2, ?_⟩
  refine ((h3.kept fun b hb => hq.g.block b hb.1.2 id).kept fun b hb => kz.block b (by have := hb.1.2; omega) hb.2).mono fun b hb => ⟨⟨hb.1.1, by have := hb.1.2; omega⟩, hb.2⟩
 exact cellsAt_set hb2 ((h.old i hi (by omega)).kept (hq.g.block g hgl id)) _ _ _ _ _ (fun t s ht hs => by omega)
theorem CopI.row {W wr : World} {d : Nat} {l : List FT} {F : Nat → Option Addr × Nat} {g : Nat} (h : CopI W wr d l F g l.length) (hl : l.length ≤ big) : RowAt (NewB W wr) wr (d + 1) (some ⟨g, 0, none⟩) l := by
 refine ⟨hl, fun hn => ⟨g, 0, rfl, ⟨h.ge, by obtain ⟨cur, hb⟩ := h.box; exact lt_of_heap hb⟩, fun i hi => ?_⟩⟩
 obtain ⟨ao', ca', h1, h2, h3⟩ := h.new i hi hi
 exact ⟨ao', ca', by rw [Nat.zero_add]; exact h1, h2, h3.mono fun b hb => hb.1⟩
theorem CopI.empty {W wr : World} {d : Nat} {vo : Option Addr} (g : Gr W wr) : RowAt (NewB W wr) wr (d + 1) vo [] := ⟨by simp [big], fun h => absurd rfl h⟩
theorem copied_walk (W : World) (ao : Option Addr) (ca : Nat) (l : List FT) (F : Nat → Option Addr × Nat) (d : Nat) (hl : l.length ≤ big) (hcell : l ≠ [] → ∃ b o, ao = some ⟨b, o, none⟩ ∧ ∀ i (hi : i < l.length), CellsAt W b (o + i * 7) l[i] (F i).1 (F i).2)
  (h67 : ∀ i (hi : i < l.length) W', Gr W W' → Calls Tryz.prog 56 #[.agg #[.int .i64 l[i].kind, .int .i64 l[i].width, .int .i64 l[i].id, .int .i64 l[i].index, .slice (F i).1 l[i].kids.length (F i).2]] W' fun e w' => ∃ vo vc, e = .returned (.agg #[.int .i64 l[i].kind, .int .i64 l[i].width, .int .i64 l[i].id, .int .i64 l[i].index, .slice vo l[i].kids.length vc]) ∧ CopQ W' d l[i].kids.length l[i].kids vo vc w') :
  Calls Tryz.prog 81 #[.slice ao l.length ca] W fun e w' => ∃ vo vc, e = .returned (.slice vo l.length vc) ∧ CopQ W (d + 1) l.length l vo vc w' := by
 have hsrc : Src Tryz.prog 7 22 (.slice ao l.length ca) l.length (row7 l F) W := by
  refine ⟨.inl ⟨58, Tryz.underlying22⟩, fun _ => rfl, ?_, ?_, row7_len l F, row7_one⟩
  all_goals
   by_cases hne : l = []
   ·subst hne
    cases ao with
    | none => exact run_firstCells_none _ 7 0 0 ca
    | some a => exact run_firstCells_some _ 7 0 a 0 ca [] rfl (fun j u h => by simp at h)
   obtain ⟨b, o, rfl, hc⟩ := hcell hne
   refine run_firstCells_some _ 7 l.length ⟨b, o, none⟩ l.length ca (row7 l F) (row7_len l F) (fun j u hu => ?_)
   have := row7_cell hc j u hu
   rw [show (⟨b, o, none⟩ : Addr).add j = ⟨b, o + j, none⟩ by simp [Addr.add]]
   simpa using this
 have HS := hidM hsrc
 have H67 := hidM h67
 have hll : l.length ≤ 1000000000000 := hl
 have HLb := hidM hl
 obtain ⟨L, hL⟩ : ∃ L, L = l.length := ⟨_, rfl⟩
 have HL := hidM hL.symm
 rw [← hL] at hll HS ⊢
 clear hsrc h67 hcell hl hL
 have H63 : Hid (0 + L ≤ 9223372036854775807) := by show _ ≤ _; omega
 have H80 : Hid ((0 + L) * 80 ≤ 140737488355328) := by show _ ≤ _; omega
 go_enter Tryz.func81, Tryz.ntmps81
 go_wp2_with (with_reducible show wpList Tryz.prog _ _ (Oper.mk (some 6) _ _ _ _ _ :: _) _ _; refine wpList_append_anyN (P := Tryz.prog) W rfl (.const (.slice none 0 0)) (.tmp 5) 22 22 rfl 58 z37 7 80 Tryz.underlying22 info37 c37 (.slice none 0 0) 0 [] rfl (World.ownsRow_nil W 0 58 7) (.slice ao L ca) L (row7 l F) rfl HS.out H63.out H80.out ?_; intro v' w1 hown hgrow hblk; rw [Nat.zero_add, List.nil_append] at hown; obtain ⟨vo, vc, rfl⟩ := own_formN hown; replace hown := hidM hown; replace hgrow := hidM hgrow; replace hblk := hidM hblk)
 replace hown := hown.out
 replace hgrow := hgrow.out
 replace hblk := hblk.out
 have hg1 : Gr W w1 := (Keeps.ofGrown hgrow).mono fun _ _ h => by simp [Value.ownBlock] at h
 have hI : L ≤ vc ∧ (0 < L → ∃ g, vo = some ⟨g, 0, none⟩ ∧ CopI W w1 d l F g 0) := by
  rcases hown.2 with ⟨h1, h2⟩ | ⟨g, cap, cur, h1, h2, h3, h4, h5⟩
  ·simp only [Value.slice.injEq] at h1
   exact ⟨by omega, fun h => by omega⟩
  simp only [Value.slice.injEq] at h1
  obtain ⟨rfl, -, rfl⟩ := h1
  refine ⟨h4, fun h0 => ⟨g, rfl, hg1, ?_, ⟨cur, h3⟩, fun i _ h => by omega, fun i hi _ => row7_own hown i hi⟩⟩
  rcases hblk with h | h
  ·simp [Value.ownBlock] at h
  exact h g rfl
 have HI := hidM hI
 have HG1 := hidM hg1
 have hvc := hI.1
 clear hown hgrow hblk hI hg1 HS
 go_loopw [9] (fun p wr => ∃ k : Nat, k ≤ L ∧ p = .int .i64 (k : Int) ∧ Hid (Gr W wr ∧ (0 < L → ∃ g, vo = some ⟨g, 0, none⟩ ∧ CopI W wr d l F g k))) (fun p _ => L - (intOf p).toNat)
 case atStart => exact ⟨0, by omega, rfl, HG1.out, HI.out.2⟩
 case round =>
  obtain ⟨k, hk, rfl, HK⟩ := hrel
  by_cases hlt : k < L
  ·have hkl : k < l.length := by have := HL.out; omega
   obtain ⟨g, rfl, hC⟩ := HK.out.2 (by omega)
   obtain ⟨c0, c1, c2, c3, c4, c5, c6⟩ := hC.old k hkl (Nat.le_refl _)
   have hcall := H67.out k hkl wr hC.gr
   have HC := hidM hC
   obtain ⟨f, hf⟩ : ∃ f, f = l[k]'hkl := ⟨_, rfl⟩
   rw [← hf] at c0 c1 c2 c3 c4 c5 c6 hcall
   have HF := hidM hf
   obtain ⟨ko, hko⟩ : ∃ ko, ko = (F k).1 := ⟨_, rfl⟩
   obtain ⟨kc, hkc⟩ : ∃ kc, kc = (F k).2 := ⟨_, rfl⟩
   rw [← hko, ← hkc] at c6 hcall
   have HCall := hidM hcall
   have hltI : (k : Int) < (L : Int) := by omega
   clear hC hf hcall HK hko hkc c0 c1
   go_wp2_with (go_at_call 56; refine Hid.out ?_)
   unfold Hid
   refine Calls.mono HCall.out ?_
   rintro e w2 ⟨xo, xc, rfl, hq⟩
   obtain ⟨cur, hb⟩ := HC.out.box
   have hb2 := (hq.g.block g (lt_of_heap hb) id).trans hb
   have d2 := hq.g.cell' c2 id
   have d3 := hq.g.cell' c3 id
   have d4 := hq.g.cell' c4 id
   have d5 := hq.g.cell' c5 id
   have d6 := hq.g.cell' c6 id
   have fz := fun j => frz hb2 j
   have e2 := fz (k * 7 + 2)
   have e3 := fz (k * 7 + 3)
   have e4 := fz (k * 7 + 4)
   have e5 := fz (k * 7 + 5)
   have e6 := fz (k * 7 + 6)
   have HN : Hid (CopI W (((((w2.setCell ⟨g, k * 7 + 2, none⟩ (.int .i64 f.kind)).setCell ⟨g, k * 7 + 3, none⟩ (.int .i64 f.width)).setCell ⟨g, k * 7 + 4, none⟩ (.int .i64 f.id)).setCell ⟨g, k * 7 + 5, none⟩ (.int .i64 f.index)).setCell ⟨g, k * 7 + 6, none⟩ (.slice xo f.kids.length xc)) d l F g (k + 1)) := by
    rw [HF.out] at hq ⊢
    exact HC.out.next hkl hq
   clear hb hb2 hq fz c2 c3 c4 c5 c6 HCall
   go_wp2_with fail
   go_roundw
   case rel => exact ⟨k + 1, by omega, by simp, HN.out.gr, fun _ => ⟨g, rfl, HN.out⟩⟩
   case measure => simp [intOf]; omega
  have hkL : k = L := by omega
  subst hkL
  have HE : Hid (CopQ W (d + 1) k l vo vc wr) := by
   refine ⟨HK.out.1, hvc, ?_⟩
   by_cases h0 : 0 < k
   ·obtain ⟨g, rfl, hC⟩ := HK.out.2 h0
    have hll := HL.out
    rw [← hll] at hC
    exact hC.row HLb.out
   have : l = [] := List.eq_nil_of_length_eq_zero (by have := HL.out; omega)
   subst this
   exact CopI.empty HK.out.1
  go_wp2_with fail
  go_ret
  exact ⟨vo, vc, rfl, HE.out⟩
theorem copied_any : ∀ (d : Nat) (S : Nat → Prop) (W : World) (ao : Option Addr) (ca : Nat) (l : List FT), RowAt S W d ao l → (∀ b, S b → b < W.heap.size) →
  Calls Tryz.prog 81 #[.slice ao l.length ca] W fun e w' => ∃ vo vc, e = .returned (.slice vo l.length vc) ∧ CopQ W d l.length l vo vc w'
 | 0, S, W, ao, ca, l, hr, hS => by
  have h' : l = [] := hr
  subst h'
  refine Calls.mono (copied_walk W ao ca [] (fun _ => (none, 0)) 0 (by simp [big]) (fun h => absurd rfl h) (fun i hi => by simp at hi)) ?_
  rintro e w' ⟨vo, vc, rfl, hq⟩
  exact ⟨vo, vc, rfl, hq.g, hq.le, rfl⟩
 | d + 1, S, W, ao, ca, l, hr, hS => by
  have hex : ∀ i, i < l.length → ∃ q : Option Addr × Nat, ∃ (hi : i < l.length), (∀ b o, ao = some ⟨b, o, none⟩ → CellsAt W b (o + i * 7) l[i] q.1 q.2) ∧ RowAt S W d q.1 l[i].kids := by
   intro i hi
   obtain ⟨b, o, rfl, _, hc⟩ := hr.2 (fun e => by subst e; simp at hi)
   obtain ⟨ao', ca', h1, h2, h3⟩ := hc i hi
   exact ⟨(ao', ca'), hi, fun b' o' e => by cases e; exact h1, h3⟩
  obtain ⟨F, hF⟩ := choose_lt hex
  refine copied_walk W ao ca l F d hr.1 (fun hne => ?_) (fun i hi W' g' => ?_)
  ·obtain ⟨b, o, rfl, _, hc⟩ := hr.2 hne
   exact ⟨b, o, rfl, fun i hi => (hF i hi).2.1 b o rfl⟩
  refine copiedType_walk _ _ _ _ _ _ _ d _ W' fun W'' g'' => ?_
  have g2 := g'.tr g''
  exact copied_any d S W'' (F i).1 (F i).2 l[i].kids ((hF i hi).2.2.kept fun b hb => g2.block b (hS b hb) id) (fun b hb => by have := hS b hb; have := g2.size; omega)
def zFT : FT := ⟨⟨#[]⟩, false, 0, 0, 0, 0, []⟩
def atGo : FT → List FT → List Int → Option FT
 | cur, _, [] => some cur
 | _, l, i :: r => if 0 ≤ i ∧ i < l.length then atGo (l[i.toNat]!) (l[i.toNat]!).kids r else none
def atR (er : Int) (fs : List FT) (path : List Int) : Int × FT :=
 if er ≠ 0 then (5, zFT) else if path = [] then (1, zFT) else match atGo zFT fs path with | none => (2, zFT) | some f => (0, f)
def ZsAt (W : World) (po : Option Addr) (l : List Int) : Prop := l ≠ [] → ∃ b o, po = some ⟨b, o, none⟩ ∧ ∀ j (h : j < l.length), W.cell? ⟨b, o + j, none⟩ = some (.int .i64 l[j])
theorem ZsAt.gr {W W' : World} {po : Option Addr} {l : List Int} (h : ZsAt W po l) (g : Gr W W') : ZsAt W' po l := fun hn => by
 obtain ⟨b, o, e, hc⟩ := h hn
 exact ⟨b, o, e, fun j hj => g.cell' (hc j hj) id⟩
def AtQ (W : World) (D : Nat) (r : Int × FT) (e : Ending) (w' : World) : Prop := ∃ vo vc, e = .returned (.tuple #[.agg #[.string r.2.name, .bool r.2.nul, .int .i64 r.2.kind, .int .i64 r.2.width, .int .i64 r.2.id, .int .i64 r.2.index, .slice vo r.2.kids.length vc], .int .i64 r.1]) ∧ Gr W w' ∧ r.2.kids.length ≤ vc ∧ RowAt (NewB W w') w' D vo r.2.kids
theorem row_none (S : Nat → Prop) (W : World) (D : Nat) (vo : Option Addr) : RowAt S W D vo [] := by
 cases D with
 | zero => rfl
 | succ D => exact ⟨by simp [big], fun h => absurd rfl h⟩
theorem AtQ.zero {W w' : World} {D : Nat} {er : Int} {r : Int × FT} (hr : r = (er, zFT)) (g : Gr W w') : AtQ W D r (.returned (.tuple #[.agg #[.string ⟨#[]⟩, .bool false, .int .i64 0, .int .i64 0, .int .i64 0, .int .i64 0, .slice none 0 0], .int .i64 er])) w' := by
 subst hr
 exact ⟨none, 0, rfl, g, by simp [zFT, FT.kids], row_none _ _ _ _⟩
structure AtI (S : Nat → Prop) (W wr : World) (D B F : Nat) (fs : List FT) (path : List Int) (k : Nat) (cur : FT) (xo : Option Addr) (xc : Nat) (lst : List FT) (lo : Option Addr) (lc : Nat) : Prop where
 g : Gr W wr
 rest : atGo zFT fs path = atGo cur lst (path.drop k)
 box : wr.heap[F]? = some (.cells #[.string cur.name, .bool cur.nul, .int .i64 cur.kind, .int .i64 cur.width, .int .i64 cur.id, .int .i64 cur.index, .slice xo cur.kids.length xc] 58)
 res : wr.heap[B]? = some (.cells #[.string ⟨#[]⟩, .bool false, .int .i64 0, .int .i64 0, .int .i64 0, .int .i64 0, .slice none 0 0] 58)
 row : RowAt S wr D lo lst
 le : lst.length ≤ lc
 krow : RowAt S wr D xo cur.kids
 kle : cur.kids.length ≤ xc
theorem AtI.keep {S : Nat → Prop} {W wr w' : World} {D B F : Nat} {fs : List FT} {path : List Int} {k : Nat} {cur : FT} {xo : Option Addr} {xc : Nat} {lst : List FT} {lo : Option Addr} {lc : Nat} (h : AtI S W wr D B F fs path k cur xo xc lst lo lc) (hS : ∀ b, S b → b < W.heap.size) (hF : W.heap.size ≤ F) (hBF : B ≠ F)
  {f : FT} {yo : Option Addr} {yc : Nat} (hk : Keeps wr w' (fun b => b = F)) (hb : w'.heap[F]? = some (.cells #[.string f.name, .bool f.nul, .int .i64 f.kind, .int .i64 f.width, .int .i64 f.id, .int .i64 f.index, .slice yo f.kids.length yc] 58)) (hr : RowAt S wr D yo f.kids) (hle : f.kids.length ≤ yc) (hrest : atGo cur lst (path.drop k) = atGo f f.kids (path.drop (k + 1))) : AtI S W w' D B F fs path (k + 1) f yo yc f.kids yo yc := by
 have hSk : KpOf S wr w' := fun b hb => hk.block b (by have := hS b hb; have := h.g.size; omega) (by have := hS b hb; omega)
 exact ⟨h.g.trans hk (fun j hj e => by omega), h.rest.trans hrest, hb, (hk.block B (lt_of_heap h.res) (fun e => hBF e)).trans h.res, hr.kept hSk, hle, hr.kept hSk, hle⟩
theorem at_gen {S : Nat → Prop} {D : Nat} {fo no po : Option Addr} {cf nn cn pc : Nat} {fs : List FT} {path : List Int} {er : Int} {w : World} (h : Ans 55 #[.agg #[.slice fo fs.length cf, .slice no nn cn]] (er == 0) w) (hr : RowAt S w D fo fs) (hcf : fs.length ≤ cf) (hS : ∀ b, S b → b < w.heap.size) (hp : ZsAt w po path) (hpl : path.length ≤ big) :
  ∀ W, Gr w W → Calls Tryz.prog 40 #[.agg #[.slice fo fs.length cf, .slice no nn cn], .slice po path.length pc] W (AtQ W D (atR er fs path)) := by
 intro W g
 have HL := hidM (h.gr g)
 have HRow : Hid (RowAt S W D fo fs) := hr.kept fun b hb => g.block b (hS b hb) id
 have HS : Hid (∀ b, S b → b < W.heap.size) := fun b hb => by have := hS b hb; have := g.size; omega
 have HP := hidM (hp.gr g)
 have hfl' : fs.length ≤ 1000000000000 := hr.len
 have hpl' : path.length ≤ 1000000000000 := hpl
 clear h hr hS hp hpl g
 obtain ⟨L, hL⟩ : ∃ L, L = fs.length := ⟨_, rfl⟩
 obtain ⟨T, hT⟩ : ∃ T, T = path.length := ⟨_, rfl⟩
 rw [← hL] at HL hcf hfl' ⊢
 rw [← hT] at hpl' ⊢
 have HLL := hidM hL
 have HTT := hidM hT
 clear hL hT
 obtain ⟨R, hR⟩ : ∃ R, R = atR er fs path := ⟨_, rfl⟩
 rw [← hR]
 have HR := hidM hR
 clear hR
 unfold Ans at HL
 obtain ⟨W0, hW0⟩ := ex ((W.alloc (.cells #[.slice fo L cf, .slice no nn cn] 25)).alloc (.cells #[.string ⟨#[]⟩, .bool false, .int .i64 0, .int .i64 0, .int .i64 0, .int .i64 0, .slice none 0 0] 58))
 have hg0 : Gr W W0 := by rw [← hW0]; exact (gr_alloc W _).alloc _
 have x1 : W0.heap[W.heap.size]? = some (.cells #[.slice fo L cf, .slice no nn cn] 25) := by
  rw [← hW0]; exact (Below.heap_alloc _ _ _ (by simp)).trans (World.alloc_heap_new W _)
 have x2 : W0.heap[W.heap.size + 1]? = some (.cells #[.string ⟨#[]⟩, .bool false, .int .i64 0, .int .i64 0, .int .i64 0, .int .i64 0, .slice none 0 0] 58) := by
  rw [← hW0]
  have := World.alloc_heap_new (W.alloc (.cells #[.slice fo L cf, .slice no nn cn] 25)) (.cells #[.string ⟨#[]⟩, .bool false, .int .i64 0, .int .i64 0, .int .i64 0, .int .i64 0, .slice none 0 0] 58)
  rw [World.size_alloc] at this
  exact this
 have HX := hidM (And.intro hg0 (And.intro x1 x2))
 obtain ⟨p0, p1⟩ := cell2 x1
 clear x1 x2 hg0
 go_enter Tryz.func40, Tryz.ntmps40
 go_wp2_with (go_at_call 55; refine Hid.out ?_)
 unfold Hid
 try rw [hW0]
 refine Calls.mono (HL.out _ HX.out.1) ?_
 rintro e W1 ⟨rfl, hg1⟩
 have y1 := (hg1.block _ (lt_of_heap HX.out.2.1) id).trans HX.out.2.1
 have y2 := (hg1.block _ (lt_of_heap HX.out.2.2) id).trans HX.out.2.2
 have HY := hidM (And.intro (HX.out.1.tr hg1) (And.intro y1 y2))
 have hB : W.heap.size + 1 < W1.heap.size := lt_of_heap y2
 obtain ⟨B, hBe⟩ : ∃ B, B = W.heap.size + 1 := ⟨_, rfl⟩
 have HBe := hidM hBe
 have q0 : W1.cell? ⟨W.heap.size, 0, none⟩ = some (.slice fo L cf) := by simp [World.cell?, y1]
 rw [← hBe] at y2 HY hB
 obtain ⟨r0, r1, r2, r3, r4, r5, r6⟩ := cell7 y2
 have z0 := frz y2 0
 have z1 := frz y2 1
 have z2 := frz y2 2
 have z3 := frz y2 3
 have z4 := frz y2 4
 have z5 := frz y2 5
 have z6 := frz y2 6
 simp only [Nat.zero_add] at r1 r2 r3 r4 r5 r6
 rw [← hBe]
 clear p0 p1 hW0 y1 y2 hg1 HL HX hBe
 have HZ : Hid (∀ (w2 : World) (c : Int), R = (c, zFT) → Gr W w2 → w2.heap[B]? = some (.cells #[.string ⟨#[]⟩, .bool false, .int .i64 0, .int .i64 0, .int .i64 0, .int .i64 0, .slice none 0 0] 58) → ∃ w3, w3 = (((((((w2.setCell ⟨B, 0, none⟩ (.string ⟨#[]⟩)).setCell ⟨B, 1, none⟩ (.bool false)).setCell ⟨B, 2, none⟩ (.int .i64 0)).setCell ⟨B, 3, none⟩ (.int .i64 0)).setCell ⟨B, 4, none⟩ (.int .i64 0)).setCell ⟨B, 5, none⟩ (.int .i64 0)).setCell ⟨B, 6, none⟩ (.slice none 0 0)) ∧ w3.heap[B]? = some (.cells #[.string ⟨#[]⟩, .bool false, .int .i64 0, .int .i64 0, .int .i64 0, .int .i64 0, .slice none 0 0] 58) ∧ AtQ W D R (.returned (.tuple #[.agg #[.string ⟨#[]⟩, .bool false, .int .i64 0, .int .i64 0, .int .i64 0, .int .i64 0, .slice none 0 0], .int .i64 c])) w3) := fun w2 c hc hg hb => by
  have s7 := set7 (.string ⟨#[]⟩) (.bool false) (.int .i64 0) (.int .i64 0) (.int .i64 0) (.int .i64 0) (.slice none 0 0) hb
  exact ⟨_, rfl, s7.1, AtQ.zero hc (hg.trans s7.2 (fun j hj e => by have := HBe.out; omega))⟩
 by_cases h0 : er = 0
 ·subst h0
  by_cases hT0 : T = 0
  ·subst hT0
   have hpn : path = [] := List.eq_nil_of_length_eq_zero HTT.out.symm
   have HE := hidM (HZ.out W1 1 (by rw [HR.out, hpn]; simp [atR]) HY.out.1 HY.out.2.2)
   clear hpn
   go_wp2
   obtain ⟨w3, hw3, hb3, hq3⟩ := HE.out
   rw [← hw3]
   obtain ⟨v0, v1, v2, v3, v4, v5, v6⟩ := cell7 hb3
   simp only [Nat.zero_add] at v1 v2 v3 v4 v5 v6
   refine bodyPost_ret (v := .tuple #[.agg #[.string ⟨#[]⟩, .bool false, .int .i64 0, .int .i64 0, .int .i64 0, .int .i64 0, .slice none 0 0], .int .i64 1]) ?_ rfl hq3
   simp [results, Tryz.f40, go_sem, v0, v1, v2, v3, v4, v5, v6]
  have hTz := beqZ (a := (T : Int)) (b := 0) (by omega)
  have HRR : Hid (∀ o, atGo zFT fs path = o → R = match o with | none => (2, zFT) | some f => (0, f)) := fun o ho => by
   rw [HR.out, ← ho]
   have : path ≠ [] := fun e => hT0 (by rw [HTT.out, e]; rfl)
   simp [atR, this]
  have HI0 : Hid (AtI S W (W1.alloc (.cells #[.string ⟨#[]⟩, .bool false, .int .i64 0, .int .i64 0, .int .i64 0, .int .i64 0, .slice none 0 0] 58)) D B W1.heap.size fs path 0 zFT none 0 fs fo cf) := by
   refine ⟨HY.out.1.alloc _, rfl, World.alloc_heap_new W1 _, (Below.heap_alloc W1 _ _ hB).trans HY.out.2.2, ?_, ?_, row_none _ _ _ _, Nat.le_refl _⟩
   ·exact HRow.out.kept fun b hb => (HY.out.1.alloc _).block b (HS.out b hb) id
   rw [← HLL.out]; exact hcf
  have q0' := fun (o : Obj) => (gr_alloc W1 o).cell' q0 id
  clear z0 z1 z2 z3 z4 z5 z6 r0 r1 r2 r3 r4 r5 r6
  go_wp2
  obtain ⟨F, hF⟩ : ∃ F, F = W1.heap.size := ⟨_, rfl⟩
  rw [← hF] at HI0 ⊢
  have HBF : Hid (B ≠ F ∧ W.heap.size ≤ F) := ⟨by omega, by have := HY.out.1.size; omega⟩
  clear hF hB q0 q0'
  go_loopw [7, 22] (fun v p wr => ∃ (k n : Nat) (cur : FT) (xo : Option Addr) (xc : Nat) (lst : List FT) (lo : Option Addr) (lc : Nat), k ≤ T ∧ n ≤ 1000000000000 ∧ n ≤ lc ∧ v = .slice lo n lc ∧ p = .int .i64 (k : Int) ∧ Hid (n = lst.length ∧ AtI S W wr D B F fs path k cur xo xc lst lo lc)) (fun _ p _ => T - (intOf p).toNat)
  case atStart => exact ⟨0, L, zFT, none, 0, fs, fo, cf, by omega, hfl', hcf, rfl, rfl, HLL.out, HI0.out⟩
  case round =>
   clear HI0
   obtain ⟨k, n, cur, xo, xc, lst, lo, lc, hk, hn, hnlc, rfl, rfl, HK⟩ := hrel
   by_cases hlt : k < T
   ·have hkl : k < path.length := by have := HTT.out; omega
    obtain ⟨b, o, rfl, hcs⟩ := HP.out (fun e => by subst e; simp at hkl)
    have g0 := HK.out.2.g.cell' (hcs k hkl) id
    have hdrop : path.drop k = path[k] :: path.drop (k + 1) := List.drop_eq_getElem_cons hkl
    obtain ⟨i, hi⟩ : ∃ i, i = path[k]'hkl := ⟨_, rfl⟩
    rw [← hi] at g0 hdrop
    have HDrop := hidM hdrop
    have hltI : (k : Int) < (T : Int) := by omega
    clear hcs hi hdrop hkl
    have HOut : Hid (¬ (0 ≤ i ∧ i < (n : Int)) → R = (2, zFT)) := fun hno => by
     refine HRR.out none ?_
     rw [HK.out.2.rest, HDrop.out, atGo, if_neg (by rw [← HK.out.1]; exact hno)]
    obtain ⟨s0, s1, s2, s3, s4, s5, s6⟩ := cell7 HK.out.2.res
    simp only [Nat.zero_add] at s1 s2 s3 s4 s5 s6
    have z0 := frz HK.out.2.res 0
    have z1 := frz HK.out.2.res 1
    have z2 := frz HK.out.2.res 2
    have z3 := frz HK.out.2.res 3
    have z4 := frz HK.out.2.res 4
    have z5 := frz HK.out.2.res 5
    have z6 := frz HK.out.2.res 6
    by_cases hneg : i < 0
    ·have HE := hidM (HZ.out wr 2 (HOut.out (by omega)) HK.out.2.g HK.out.2.res)
     go_wp2
     obtain ⟨w3, hw3, hb3, hq3⟩ := HE.out
     rw [← hw3]
     obtain ⟨v0, v1, v2, v3, v4, v5, v6⟩ := cell7 hb3
     simp only [Nat.zero_add] at v1 v2 v3 v4 v5 v6
     refine bodyPost_ret (v := .tuple #[.agg #[.string ⟨#[]⟩, .bool false, .int .i64 0, .int .i64 0, .int .i64 0, .int .i64 0, .slice none 0 0], .int .i64 2]) ?_ rfl hq3
     simp [results, Tryz.f40, go_sem, v0, v1, v2, v3, v4, v5, v6]
    by_cases hbig : (n : Int) ≤ i
    ·have HE := hidM (HZ.out wr 2 (HOut.out (by omega)) HK.out.2.g HK.out.2.res)
     go_wp2
     obtain ⟨w3, hw3, hb3, hq3⟩ := HE.out
     rw [← hw3]
     obtain ⟨v0, v1, v2, v3, v4, v5, v6⟩ := cell7 hb3
     simp only [Nat.zero_add] at v1 v2 v3 v4 v5 v6
     refine bodyPost_ret (v := .tuple #[.agg #[.string ⟨#[]⟩, .bool false, .int .i64 0, .int .i64 0, .int .i64 0, .int .i64 0, .slice none 0 0], .int .i64 2]) ?_ rfl hq3
     simp [results, Tryz.f40, go_sem, v0, v1, v2, v3, v4, v5, v6]
    obtain ⟨j, rfl⟩ : ∃ j : Nat, i = (j : Int) := ⟨i.toNat, by omega⟩
    have hjn : j < n := by omega
    have hjl : j < lst.length := by have := HK.out.1; omega
    have hrow := HK.out.2.row
    obtain ⟨d, rfl⟩ : ∃ d, D = d + 1 := by
     cases D with
     | zero => have : lst = [] := hrow; rw [this] at hjl; simp at hjl
     | succ d => exact ⟨d, rfl⟩
    obtain ⟨b', o', rfl, _, hcs⟩ := hrow.2 (fun e => by subst e; simp at hjl)
    obtain ⟨yo, yc, hc, hle', hr'⟩ := hcs j hjl
    obtain ⟨c0, c1, c2, c3, c4, c5, c6⟩ := hc
    obtain ⟨f, hf⟩ : ∃ f, f = lst[j]'hjl := ⟨_, rfl⟩
    rw [← hf] at c0 c1 c2 c3 c4 c5 c6 hle' hr'
    have hjI : (j : Int) < (n : Int) := by omega
    have hyl : f.kids.length ≤ 1000000000000 := hr'.len
    have hbx := HK.out.2.box
    have s7 := set7 (.string f.name) (.bool f.nul) (.int .i64 f.kind) (.int .i64 f.width) (.int .i64 f.id) (.int .i64 f.index) (.slice yo f.kids.length yc) hbx
    have HN := hidM (HK.out.2.keep (f := f) (yo := yo) (yc := yc) HS.out HBF.out.2 HBF.out.1 s7.2 s7.1 hr'.up hle' (by
     have hb : lst[j]! = f := by rw [hf]; exact getElem!_pos lst j hjl
     rw [HDrop.out, atGo, if_pos (by rw [← HK.out.1]; omega)]
     simp [hb]))
    obtain ⟨t0, t1, t2, t3, t4, t5, t6⟩ := cell7 hbx
    simp only [Nat.zero_add] at t1 t2 t3 t4 t5 t6
    have e0 := frz hbx 0
    have e1 := frz hbx 1
    have e2 := frz hbx 2
    have e3 := frz hbx 3
    have e4 := frz hbx 4
    have e5 := frz hbx 5
    have e6 := frz hbx 6
    clear s0 s1 s2 s3 s4 s5 s6 z0 z1 z2 z3 z4 z5 z6 hcs hrow hr' hbx s7 HK hf hneg hbig HOut
    go_wp2
    go_roundw
    case rel => exact ⟨k + 1, _, f, yo, yc, f.kids, yo, yc, by omega, hyl, hle', rfl, by simp, rfl, HN.out⟩
    case measure => simp [intOf]; omega
   have hkT : k = T := by omega
   subst hkT
   have hcur : R = (0, cur) := by
    refine HRR.out (some cur) ?_
    rw [HK.out.2.rest, List.drop_of_length_le (by have := HTT.out; omega)]
    rfl
   have HC := hidM hcur
   clear hcur
   have hbx := HK.out.2.box
   have hcall : Calls Tryz.prog 56 #[.agg #[.int .i64 cur.kind, .int .i64 cur.width, .int .i64 cur.id, .int .i64 cur.index, .slice xo cur.kids.length xc]] wr fun e w' => ∃ vo vc, e = .returned (.agg #[.int .i64 cur.kind, .int .i64 cur.width, .int .i64 cur.id, .int .i64 cur.index, .slice vo cur.kids.length vc]) ∧ CopQ wr D cur.kids.length cur.kids vo vc w' :=
    copiedType_walk _ _ _ _ xo cur.kids.length xc D cur.kids wr fun W'' g'' => copied_any D S W'' xo xc cur.kids (HK.out.2.krow.kept fun b hb => g''.block b (by have := HS.out b hb; have := HK.out.2.g.size; omega) id) (fun b hb => by have := HS.out b hb; have := HK.out.2.g.size; have := g''.size; omega)
   have HCall := hidM hcall
   obtain ⟨t0, t1, t2, t3, t4, t5, t6⟩ := cell7 hbx
   simp only [Nat.zero_add] at t1 t2 t3 t4 t5 t6
   have HKK := hidM (And.intro HK.out.2.g (And.intro hbx HK.out.2.res))
   clear hbx hcall HK hlt
   go_wp2_with (go_at_call 56; refine Hid.out ?_)
   unfold Hid
   refine Calls.mono HCall.out ?_
   rintro e w2 ⟨yo, yc, rfl, hq⟩
   have hbx := (hq.g.block _ (lt_of_heap HKK.out.2.1) id).trans HKK.out.2.1
   have hrs := (hq.g.block _ (lt_of_heap HKK.out.2.2) id).trans HKK.out.2.2
   have HFl : Hid (F < wr.heap.size ∧ B < wr.heap.size) := ⟨lt_of_heap HKK.out.2.1, lt_of_heap HKK.out.2.2⟩
   obtain ⟨w3, hw3⟩ : ∃ w3, w3 = ((((w2.setCell ⟨F, 2, none⟩ (.int .i64 cur.kind)).setCell ⟨F, 3, none⟩ (.int .i64 cur.width)).setCell ⟨F, 4, none⟩ (.int .i64 cur.id)).setCell ⟨F, 5, none⟩ (.int .i64 cur.index)).setCell ⟨F, 6, none⟩ (.slice yo cur.kids.length yc) := ⟨_, rfl⟩
   have hk3 : Keeps w2 w3 (fun b => b = F) := by rw [hw3]; exact keep1 (keep1 (keep1 (keep1 (keep1 (Keeps.refl w2 _) _) _) _) _) _
   have hb3 : w3.heap[F]? = some (.cells #[.string cur.name, .bool cur.nul, .int .i64 cur.kind, .int .i64 cur.width, .int .i64 cur.id, .int .i64 cur.index, .slice yo cur.kids.length yc] 58) := by
    rw [hw3, setc (j := 6) (setc (j := 5) (setc (j := 4) (setc (j := 3) (setc (j := 2) hbx _) _) _) _) _]; simp
   have hr3 := (hk3.block B (lt_of_heap hrs) (fun e => HBF.out.1 e)).trans hrs
   have s7 := set7 (.string cur.name) (.bool cur.nul) (.int .i64 cur.kind) (.int .i64 cur.width) (.int .i64 cur.id) (.int .i64 cur.index) (.slice yo cur.kids.length yc) hr3
   have HE : Hid (∃ w4, w4 = (((((((w3.setCell ⟨B, 0, none⟩ (.string cur.name)).setCell ⟨B, 1, none⟩ (.bool cur.nul)).setCell ⟨B, 2, none⟩ (.int .i64 cur.kind)).setCell ⟨B, 3, none⟩ (.int .i64 cur.width)).setCell ⟨B, 4, none⟩ (.int .i64 cur.id)).setCell ⟨B, 5, none⟩ (.int .i64 cur.index)).setCell ⟨B, 6, none⟩ (.slice yo cur.kids.length yc)) ∧ w4.heap[B]? = some (.cells #[.string cur.name, .bool cur.nul, .int .i64 cur.kind, .int .i64 cur.width, .int .i64 cur.id, .int .i64 cur.index, .slice yo cur.kids.length yc] 58) ∧ AtQ W D R (.returned (.tuple #[.agg #[.string cur.name, .bool cur.nul, .int .i64 cur.kind, .int .i64 cur.width, .int .i64 cur.id, .int .i64 cur.index, .slice yo cur.kids.length yc], .int .i64 0])) w4) := by
    refine ⟨_, rfl, s7.1, ?_⟩
    rw [HC.out]
    have kall : Keeps w2 _ (fun b => b = F ∨ b = B) := (hk3.mono fun _ _ h => .inl h).tr (s7.2.mono fun _ _ h => Or.inr h)
    have hsz := kall.size
    refine ⟨yo, yc, rfl, (HKK.out.1.tr hq.g).trans kall (fun j hj e => by have := HBe.out; have := HBF.out.2; omega), hq.le, ?_⟩
    exact (hq.row.kept fun b hb => kall.block b hb.2 (by have := hb.1; have := HFl.out; omega)).mono fun b hb => ⟨by have := hb.1; have := HKK.out.1.size; omega, by have := hb.2; omega⟩
   obtain ⟨t0, t1, t2, t3, t4, t5, t6⟩ := cell7 hbx
   obtain ⟨a0, a1, a2, a3, a4, a5, a6⟩ := cell7 hb3
   obtain ⟨s0, s1, s2, s3, s4, s5, s6⟩ := cell7 hr3
   simp only [Nat.zero_add] at t1 t2 t3 t4 t5 t6 s1 s2 s3 s4 s5 s6 a1 a2 a3 a4 a5 a6
   have y2 := frz hbx 2
   have y3 := frz hbx 3
   have y4 := frz hbx 4
   have y5 := frz hbx 5
   have y6 := frz hbx 6
   have z0 := frz hr3 0
   have z1 := frz hr3 1
   have z2 := frz hr3 2
   have z3 := frz hr3 3
   have z4 := frz hr3 4
   have z5 := frz hr3 5
   have z6 := frz hr3 6
   replace hw3 := hw3.symm
   clear hbx hrs s7 hb3 hr3 hk3 hq HCall
   go_wp2_with fail
   obtain ⟨w4, hw4, hb4, hq4⟩ := HE.out
   try rw [hw3]
   rw [← hw4]
   obtain ⟨v0, v1, v2, v3, v4, v5, v6⟩ := cell7 hb4
   simp only [Nat.zero_add] at v1 v2 v3 v4 v5 v6
   refine bodyPost_ret (v := .tuple #[.agg #[.string cur.name, .bool cur.nul, .int .i64 cur.kind, .int .i64 cur.width, .int .i64 cur.id, .int .i64 cur.index, .slice yo cur.kids.length yc], .int .i64 0]) ?_ rfl hq4
   simp [results, Tryz.f40, go_sem, v0, v1, v2, v3, v4, v5, v6]
 have hz := beqZ h0
 have HE := hidM (HZ.out W1 5 (by rw [HR.out]; simp [atR, h0]) HY.out.1 HY.out.2.2)
 go_wp2
 obtain ⟨w3, hw3, hb3, hq3⟩ := HE.out
 rw [← hw3]
 obtain ⟨v0, v1, v2, v3, v4, v5, v6⟩ := cell7 hb3
 simp only [Nat.zero_add] at v1 v2 v3 v4 v5 v6
 refine bodyPost_ret (v := .tuple #[.agg #[.string ⟨#[]⟩, .bool false, .int .i64 0, .int .i64 0, .int .i64 0, .int .i64 0, .slice none 0 0], .int .i64 5]) ?_ rfl hq3
 simp [results, Tryz.f40, go_sem, v0, v1, v2, v3, v4, v5, v6]
end Go.Proofs.YthhpamhfnpacpaaGreatDoor.Kd
namespace Go.Proofs.YthhpamhfnpacpaaGreatDoor.kindR
open Go.ChangeShapes Go.WideShapes Go.ChangeAt Go.RowKit Go.Deep
open Go.Proofs.YthhpamhfnpacpaaGreatDoor
def rowD (k : Nat) : DataW Unit := .agg [.lit (.string (Kit.wordK k)), .lit (.int .i64 (Kit.bytesK k)), .lit (.int .i64 (Kit.bufsK k)), .lit (.int .i64 (Kit.leastK k)), .lit (.int .i64 (Kit.mostK k))]
theorem laid_rows : (Rows.laid_colonnade_kind_kinds : DataW Unit) = .agg ((List.range 21).map rowD) := rfl
theorem cells85 : Tryz.prog.cellsOf 174 = 5 := by kernel_rfl
theorem cells86 : Tryz.prog.cellsOf 175 = 105 := by kernel_rfl
theorem cells3 : Tryz.prog.cellsOf 3 = 1 := by kernel_rfl
theorem cells9 : Tryz.prog.cellsOf 9 = 1 := by kernel_rfl
theorem gKinds : Tryz.prog.globalNamed "colonnade/kind.kinds" = some 0 := by kernel_rfl
theorem gKindsT : (Tryz.prog.globals[0]?).map (·.type) = some 175 := by kernel_rfl
theorem row_at {W : World} {fuel : Nat} {cs : List Value} {k : Nat} {p : List MemPlace} (h : DataW.trod (fun _ => ()) Tryz.prog W 0 (fun _ => true) false fuel 174 cs = some (rowD k, p)) :
  cs = [.string ⟨(Kit.wordK k).toArray⟩, .int .i64 (Kit.bytesK k), .int .i64 (Kit.bufsK k), .int .i64 (Kit.leastK k), .int .i64 (Kit.mostK k)] := by
 obtain ⟨xs, m, _, hd, hl, hxs, hf⟩ := DataW.trod_struct Tryz.underlying174 h
 rw [cells85] at hl
 obtain ⟨c0, c1, c2, c3, c4, rfl⟩ : ∃ c0 c1 c2 c3 c4, cs = [c0, c1, c2, c3, c4] := by
  match cs, hl with
  | [a, b, c, d, e], _ => exact ⟨a, b, c, d, e, rfl⟩
 obtain ⟨y0, y1, y2, y3, y4, rfl⟩ : ∃ y0 y1 y2 y3 y4, xs = [y0, y1, y2, y3, y4] := by
  match xs, (hxs.trans rfl : xs.length = 5) with
  | [a, b, c, d, e], _ => exact ⟨a, b, c, d, e, rfl⟩
 have f0 : DataW.trod (fun _ => ()) Tryz.prog W 0 (fun _ => true) false m 9 ((([c0, c1, c2, c3, c4] : List Value).drop 0).take (Tryz.prog.cellsOf 9)) = some y0 := hf 0 _ rfl
 have f1 : DataW.trod (fun _ => ()) Tryz.prog W 0 (fun _ => true) false m 3 ((([c0, c1, c2, c3, c4] : List Value).drop 1).take (Tryz.prog.cellsOf 3)) = some y1 := hf 1 _ rfl
 have f2 : DataW.trod (fun _ => ()) Tryz.prog W 0 (fun _ => true) false m 3 ((([c0, c1, c2, c3, c4] : List Value).drop 2).take (Tryz.prog.cellsOf 3)) = some y2 := hf 2 _ rfl
 have f3 : DataW.trod (fun _ => ()) Tryz.prog W 0 (fun _ => true) false m 3 ((([c0, c1, c2, c3, c4] : List Value).drop 3).take (Tryz.prog.cellsOf 3)) = some y3 := hf 3 _ rfl
 have f4 : DataW.trod (fun _ => ()) Tryz.prog W 0 (fun _ => true) false m 3 ((([c0, c1, c2, c3, c4] : List Value).drop 4).take (Tryz.prog.cellsOf 3)) = some y4 := hf 4 _ rfl
 rw [cells9] at f0
 rw [cells3] at f1 f2 f3 f4
 simp only [List.drop_zero, List.drop_succ_cons, List.take_succ_cons, List.take_zero] at f0 f1 f2 f3 f4
 obtain ⟨s, e0, g0, _⟩ := DataW.trod_string Tryz.underlying9 f0
 obtain ⟨k1, e1, g1, _⟩ := DataW.trod_int Tryz.underlying3 f1
 obtain ⟨k2, e2, g2, _⟩ := DataW.trod_int Tryz.underlying3 f2
 obtain ⟨k3, e3, g3, _⟩ := DataW.trod_int Tryz.underlying3 f3
 obtain ⟨k4, e4, g4, _⟩ := DataW.trod_int Tryz.underlying3 f4
 subst g0 g1 g2 g3 g4
 simp only [rowD, Prod.mk.injEq, DataW.agg.injEq, List.map_cons, List.map_nil, List.cons.injEq, DataW.lit.injEq, Lit.string.injEq, Lit.int.injEq, true_and, and_true] at hd
 obtain ⟨⟨h0, h1, h2, h3, h4⟩, _⟩ := hd
 simp only [List.cons.injEq, and_true] at e0 e1 e2 e3 e4
 rw [e0, e1, e2, e3, e4, h0, h1, h2, h3, h4]
theorem table {W : World} {L : List (String × DataW Unit)} (h : laidMet Tryz.prog L W) (hm : ("colonnade/kind.kinds", Rows.laid_colonnade_kind_kinds) ∈ L) : Kit.Tab W := by
 obtain ⟨g', t', cs, fuel, p, hg', ht', hvar, hd⟩ := Lib.laidMet.reads h hm
 obtain rfl := Option.some.inj (gKinds.symm.trans hg')
 obtain rfl := Option.some.inj (gKindsT.symm.trans ht')
 rw [laid_rows] at hd
 obtain ⟨xs, m, _, he, hl, hx, hf⟩ := DataW.trod_array Tryz.underlying175 hd
 rw [cells86] at hl
 rw [cells85] at hf
 simp only [Prod.mk.injEq, DataW.agg.injEq] at he
 have hcell := fun i => World.var?_cell gKinds hvar i
 have hsz : cs.size = 105 := by simpa using hl
 refine ⟨?_, fun k hk => ?_⟩
 ·have := hcell 0
  rw [Array.getElem?_eq_getElem (by omega)] at this
  have := block_lt_of_cell this
  exact this
 have h1 := hf k hk
 rw [List.getElem?_eq_getElem (by omega)] at h1
 have h2 : (xs[k]'(by omega)).1 = rowD k := by
  have := congrArg (·[k]?) he.1
  simp only [List.getElem?_map, List.getElem?_range hk, Option.map_some] at this
  rw [List.getElem?_eq_getElem (by omega)] at this
  simpa using this.symm
 have h3 := row_at (k := k) (p := (xs[k]'(by omega)).2) (by rw [h1, ← h2])
 have h4 : ∀ j, j < 5 → cs[k * 5 + j]? = ([.string ⟨(Kit.wordK k).toArray⟩, .int .i64 (Kit.bytesK k), .int .i64 (Kit.bufsK k), .int .i64 (Kit.leastK k), .int .i64 (Kit.mostK k)] : List Value)[j]? := fun j hj => by
  rw [← h3, List.getElem?_take_of_lt hj, List.getElem?_drop, Array.getElem?_toList]
 exact ⟨(hcell _).trans (h4 0 (by decide)), (hcell _).trans (h4 1 (by decide)), (hcell _).trans (h4 2 (by decide)), (hcell _).trans (h4 3 (by decide)), (hcell _).trans (h4 4 (by decide))⟩
theorem cells4 : Tryz.prog.cellsOf 4 = 1 := by kernel_rfl
theorem cells24 : Tryz.prog.cellsOf 22 = 1 := by kernel_rfl
theorem cells35 : Tryz.prog.cellsOf 56 = 5 := by kernel_rfl
theorem cells37 : Tryz.prog.cellsOf 58 = 7 := by kernel_rfl
theorem cells76 : Tryz.prog.cellsOf 63 = 2 := by kernel_rfl
theorem one_le {H : Type} (d : DataW H) : 1 ≤ Rows.uptoBulk d := by
 cases d with
 | lit l => cases l <;> simp [Rows.uptoBulk]
 | nil => simp [Rows.uptoBulk]
 | ptr d => simp [Rows.uptoBulk]
 | slice elems spare => simp [Rows.uptoBulk]
 | agg parts => simp [Rows.uptoBulk]
 | iface t d => simp [Rows.uptoBulk]
 | map entries => simp [Rows.uptoBulk]
 | held h => simp [Rows.uptoBulk]
theorem part_le {H : Type} {d : DataW H} {l : List (DataW H)} (h : d ∈ l) : Rows.uptoBulk d ≤ Rows.uptoBulkAll l := by
 induction l with
 | nil => cases h
 | cons x r ih =>
  simp only [Rows.uptoBulkAll]
  rcases List.mem_cons.1 h with e | e
  ·subst e; omega
  have := ih e; omega
theorem length_le {H : Type} (l : List (DataW H)) : l.length ≤ Rows.uptoBulkAll l := by
 induction l with
 | nil => simp [Rows.uptoBulkAll]
 | cons x r ih => have := one_le x; simp only [Rows.uptoBulkAll, List.length_cons]; omega
theorem list3 {α : Type} (l : List α) (h : l.length = 3) : ∃ a b c, l = [a, b, c] := by
 match l, h with
 | [a, b, c], _ => exact ⟨a, b, c, rfl⟩
theorem list5 {α : Type} (l : List α) (h : l.length = 5) : ∃ a b c d e, l = [a, b, c, d, e] := by
 match l, h with
 | [a, b, c, d, e], _ => exact ⟨a, b, c, d, e, rfl⟩
theorem list7 {α : Type} (l : List α) (h : l.length = 7) : ∃ a b c d e f g, l = [a, b, c, d, e, f, g] := by
 match l, h with
 | [a, b, c, d, e, f, g], _ => exact ⟨a, b, c, d, e, f, g, rfl⟩
theorem field_at {H : Type} {enc : TypeId × Value → H} {W : World} {fuel : Nat} {cs : List Value} {d : DataW H} {p : List MemPlace} (hl : cs.length = 7)
  (h : DataW.trod enc Tryz.prog W 0 (fun _ => true) true fuel 58 cs = some (d, p)) :
  ∃ (nm : ByteArray) (nu : Bool) (k0 k1 k2 k3 : Int) (v : Value) (n : Nat) (dk : DataW H) (pk : List MemPlace), cs = [.string nm, .bool nu, .int .i64 k0, .int .i64 k1, .int .i64 k2, .int .i64 k3, v] ∧
   DataW.trod enc Tryz.prog W 0 (fun _ => true) true n 22 [v] = some (dk, pk) ∧ Rows.uptoBulk dk + 1 ≤ Rows.uptoBulk d := by
 obtain ⟨xs, m, _, hd, _, hxs, hf⟩ := DataW.trod_struct Tryz.underlying58 h
 obtain ⟨c0, c1, c2, c3, c4, c5, c6, rfl⟩ := list7 cs hl
 obtain ⟨y0, y1, y2, rfl⟩ := list3 xs (hxs.trans rfl)
 have f0 : DataW.trod enc Tryz.prog W 0 (fun _ => true) true m 9 ((([c0, c1, c2, c3, c4, c5, c6] : List Value).drop 0).take (Tryz.prog.cellsOf 9)) = some y0 := hf 0 _ rfl
 have f1 : DataW.trod enc Tryz.prog W 0 (fun _ => true) true m 4 ((([c0, c1, c2, c3, c4, c5, c6] : List Value).drop 1).take (Tryz.prog.cellsOf 4)) = some y1 := hf 1 _ rfl
 have f2 : DataW.trod enc Tryz.prog W 0 (fun _ => true) true m 56 ((([c0, c1, c2, c3, c4, c5, c6] : List Value).drop 2).take (Tryz.prog.cellsOf 56)) = some y2 := hf 2 _ rfl
 rw [cells9] at f0
 rw [cells4] at f1
 rw [cells35] at f2
 simp only [List.drop_zero, List.drop_succ_cons, List.take_succ_cons, List.take_zero] at f0 f1 f2
 obtain ⟨nm, e0, _⟩ := DataW.trod_string Tryz.underlying9 f0
 obtain ⟨nu, e1, _⟩ := DataW.trod_bool Tryz.underlying4 f1
 obtain ⟨zs, m2, _, hd2, _, hzs, hf2⟩ := DataW.trod_struct Tryz.underlying56 f2
 obtain ⟨z0, z1, z2, z3, z4, rfl⟩ := list5 zs (hzs.trans rfl)
 have t0 : DataW.trod enc Tryz.prog W 0 (fun _ => true) true m2 3 ((([c2, c3, c4, c5, c6] : List Value).drop 0).take (Tryz.prog.cellsOf 3)) = some z0 := hf2 0 _ rfl
 have t1 : DataW.trod enc Tryz.prog W 0 (fun _ => true) true m2 3 ((([c2, c3, c4, c5, c6] : List Value).drop 1).take (Tryz.prog.cellsOf 3)) = some z1 := hf2 1 _ rfl
 have t2 : DataW.trod enc Tryz.prog W 0 (fun _ => true) true m2 3 ((([c2, c3, c4, c5, c6] : List Value).drop 2).take (Tryz.prog.cellsOf 3)) = some z2 := hf2 2 _ rfl
 have t3 : DataW.trod enc Tryz.prog W 0 (fun _ => true) true m2 3 ((([c2, c3, c4, c5, c6] : List Value).drop 3).take (Tryz.prog.cellsOf 3)) = some z3 := hf2 3 _ rfl
 have t4 : DataW.trod enc Tryz.prog W 0 (fun _ => true) true m2 22 ((([c2, c3, c4, c5, c6] : List Value).drop 4).take (Tryz.prog.cellsOf 22)) = some z4 := hf2 4 _ rfl
 rw [cells3] at t0 t1 t2 t3
 rw [cells24] at t4
 simp only [List.drop_zero, List.drop_succ_cons, List.take_succ_cons, List.take_zero] at t0 t1 t2 t3 t4
 obtain ⟨k0, q0, _⟩ := DataW.trod_int Tryz.underlying3 t0
 obtain ⟨k1, q1, _⟩ := DataW.trod_int Tryz.underlying3 t1
 obtain ⟨k2, q2, _⟩ := DataW.trod_int Tryz.underlying3 t2
 obtain ⟨k3, q3, _⟩ := DataW.trod_int Tryz.underlying3 t3
 simp at e0 e1 q0 q1 q2 q3
 subst e0 e1 q0 q1 q2 q3
 simp only [Prod.mk.injEq] at hd
 refine ⟨nm, nu, k0, k1, k2, k3, c6, m2, z4.1, z4.2, rfl, t4, ?_⟩
 have hy2 : y2.1 = .agg ([z0, z1, z2, z3, z4].map fun x => x.1) := by rw [hd2]
 have h1 : Rows.uptoBulk z4.1 ≤ Rows.uptoBulkAll ([z0, z1, z2, z3, z4].map fun x => x.1) := part_le (List.mem_map_of_mem (by simp))
 have h2 : Rows.uptoBulk y2.1 ≤ Rows.uptoBulkAll ([y0, y1, y2].map fun x => x.1) := part_le (List.mem_map_of_mem (by simp))
 rw [hd.1]
 rw [hy2] at h2
 simp only [Rows.uptoBulk] at h2 ⊢
 omega
theorem add0 (b o i : Nat) : (⟨b, o, none⟩ : Addr).add i = ⟨b, o + i, none⟩ := by simp [Addr.add]
theorem fields_at {H : Type} {enc : TypeId × Value → H} {W : World} (B : Nat) (hB : B ≤ 1048576) : ∀ {fuel : Nat} {v : Value} {d : DataW H} {p : List MemPlace},
  DataW.trod enc Tryz.prog W 0 (fun _ => true) true fuel 22 [v] = some (d, p) → Rows.uptoBulk d ≤ B → ∃ ao l ca, v = .slice ao l.length ca ∧ l.length ≤ ca ∧ Kit.RowAt (fun b => b < W.heap.size) W B ao l := by
 induction B with
 | zero => intro fuel v d p _ hb; have := one_le d; omega
 | succ B ih =>
  intro fuel v d p h hb
  rcases open_slice Tryz.underlying22 h with ⟨hcs, _⟩ | ⟨a, len, cap, m, n, D, Pl, hcs, _, hl, hm, hmm, hx, hc⟩
  ·simp at hcs
   subst hcs
   exact ⟨none, [], 0, rfl, Nat.le_refl _, by simp [Kit.big], fun h => absurd rfl h⟩
  simp at hcs
  subst hcs
  simp only [if_true] at hmm
  subst hmm
  simp only [Prod.mk.injEq] at hx
  have hb' : Rows.uptoBulkAll ((List.range len).map D) + 1 ≤ B + 1 := by
   rw [hx.1] at hb
   simp only [Rows.uptoBulk] at hb
   omega
  have hlen : len ≤ 1048576 := by
   have := length_le ((List.range len).map D)
   simp at this
   omega
  have hall : ∀ i, i < len → ∃ f : Kit.FT, ∃ ao' ca', W.cells? 0 (a.add (i * 7)) 7 = some [.string f.name, .bool f.nul, .int .i64 f.kind, .int .i64 f.width, .int .i64 f.id, .int .i64 f.index, .slice ao' f.kids.length ca'] ∧ f.kids.length ≤ ca' ∧ Kit.RowAt (fun b => b < W.heap.size) W B ao' f.kids := by
   intro i hi
   obtain ⟨cs', hc', ht⟩ := hc i (by omega)
   rw [cells37] at hc'
   obtain ⟨_, hl', _⟩ := World.cells?_some hc'
   obtain ⟨nm, nu, k0, k1, k2, k3, v, n', dk, pk, rfl, hk, hbk⟩ := field_at hl' ht
   have hbi := part_le (List.mem_map_of_mem (f := D) (List.mem_range.2 hi))
   obtain ⟨ao', l', ca', rfl, h1, h2⟩ := ih (by omega) hk (by omega)
   exact ⟨⟨nm, nu, k0, k1, k2, k3, l'⟩, ao', ca', hc', h1, h2⟩
  obtain ⟨F, hF⟩ := choose_lt hall
  refine ⟨some a, (List.range len).map F, m, by simp, by simp; omega, by simp [Kit.big]; omega, fun h0 => ?_⟩
  have h0' : 0 < len := by cases len with | zero => simp at h0 | succ n => omega
  obtain ⟨b, off, spot⟩ := a
  have hsp : spot = none := by
   obtain ⟨_, _, hc', _⟩ := hF 0 h0'
   obtain ⟨_, hl', hcell'⟩ := World.cells?_some hc'
   have g0 := hcell' 0 (by omega)
   have hsp := World.cell?_spot (g0.trans rfl)
   simp [Addr.add] at hsp
   exact hsp
  subst hsp
  have hblk : b < W.heap.size := by
   obtain ⟨_, _, hc', _⟩ := hF 0 h0'
   obtain ⟨_, hl', hcell'⟩ := World.cells?_some hc'
   have g0 := (hcell' 0 (by omega)).trans rfl
   rw [add0, add0] at g0
   exact block_lt_of_cell g0
  refine ⟨b, off, rfl, hblk, fun i hi => ?_⟩
  simp at hi
  obtain ⟨ao', ca', hc', h1, h2⟩ := hF i hi
  have he : ((List.range len).map F)[i]'(by simpa using hi) = F i := by simp
  rw [he]
  obtain ⟨_, _, hcell⟩ := World.cells?_some hc'
  rw [add0] at hcell
  have g0 := hcell 0 (by omega)
  have g1 := hcell 1 (by omega)
  have g2 := hcell 2 (by omega)
  have g3 := hcell 3 (by omega)
  have g4 := hcell 4 (by omega)
  have g5 := hcell 5 (by omega)
  have g6 := hcell 6 (by omega)
  simp only [add0, Nat.add_zero, List.getElem?_cons_zero, List.getElem?_cons_succ] at g0 g1 g2 g3 g4 g5 g6
  exact ⟨ao', ca', ⟨g0, g1, g2, g3, g4, g5, g6⟩, h1, h2⟩
theorem list2 {α : Type} (l : List α) (h : l.length = 2) : ∃ a b, l = [a, b] := by
 match l, h with
 | [a, b], _ => exact ⟨a, b, rfl⟩
theorem notes_at {H : Type} {enc : TypeId × Value → H} {W : World} {fuel : Nat} {v : Value} {d : DataW H} {p : List MemPlace}
  (h : DataW.trod enc Tryz.prog W 0 (fun _ => true) true fuel 23 [v] = some (d, p)) (hb : Rows.uptoBulk d ≤ 1048576) : ∃ ao l ca, v = .slice ao l.length ca ∧ Kit.NotesAt W ao l := by
 rcases open_slice Tryz.underlying23 h with ⟨hcs, _⟩ | ⟨a, len, cap, m, n, D, Pl, hcs, _, hl, hm, hmm, hx, hc⟩
 ·simp at hcs
  subst hcs
  exact ⟨none, [], 0, rfl, by simp [Kit.big], fun h => absurd rfl h⟩
 simp at hcs
 subst hcs
 simp only [if_true] at hmm
 subst hmm
 simp only [Prod.mk.injEq] at hx
 have hlen : len ≤ 1048576 := by
  rw [hx.1] at hb
  simp only [Rows.uptoBulk] at hb
  have := length_le ((List.range len).map D)
  simp at this
  omega
 have hall : ∀ i, i < len → ∃ q : ByteArray × ByteArray, W.cells? 0 (a.add (i * 2)) 2 = some [.string q.1, .string q.2] := by
  intro i hi
  obtain ⟨cs', hc', ht⟩ := hc i (by omega)
  rw [cells76] at hc'
  obtain ⟨_, hl', _⟩ := World.cells?_some hc'
  obtain ⟨xs, m2, _, _, _, hxs, hf⟩ := DataW.trod_struct Tryz.underlying63 ht
  obtain ⟨c0, c1, rfl⟩ := list2 cs' hl'
  obtain ⟨y0, y1, rfl⟩ := list2 xs (hxs.trans rfl)
  have f0 : DataW.trod enc Tryz.prog W 0 (fun _ => true) true m2 9 ((([c0, c1] : List Value).drop 0).take (Tryz.prog.cellsOf 9)) = some y0 := hf 0 _ rfl
  have f1 : DataW.trod enc Tryz.prog W 0 (fun _ => true) true m2 9 ((([c0, c1] : List Value).drop 1).take (Tryz.prog.cellsOf 9)) = some y1 := hf 1 _ rfl
  rw [cells9] at f0 f1
  simp only [List.drop_zero, List.drop_succ_cons, List.take_succ_cons, List.take_zero] at f0 f1
  obtain ⟨s0, e0, _⟩ := DataW.trod_string Tryz.underlying9 f0
  obtain ⟨s1, e1, _⟩ := DataW.trod_string Tryz.underlying9 f1
  simp at e0 e1
  subst e0 e1
  exact ⟨(s0, s1), hc'⟩
 have : Inhabited (ByteArray × ByteArray) := ⟨(⟨#[]⟩, ⟨#[]⟩)⟩
 obtain ⟨F, hF⟩ := choose_lt hall
 refine ⟨some a, (List.range len).map F, m, by simp, by simp [Kit.big]; omega, fun h0 => ?_⟩
 have h0' : 0 < len := by cases len with | zero => simp at h0 | succ n => omega
 obtain ⟨b, off, spot⟩ := a
 have hsp : spot = none := by
  obtain ⟨_, hl', hcell'⟩ := World.cells?_some (hF 0 h0')
  have g0 := hcell' 0 (by omega)
  have hsp := World.cell?_spot (g0.trans rfl)
  simp [Addr.add] at hsp
  exact hsp
 subst hsp
 refine ⟨b, off, rfl, fun i hi => ?_⟩
 simp at hi
 have he : ((List.range len).map F)[i]'(by simpa using hi) = F i := by simp
 rw [he]
 obtain ⟨_, _, hcell⟩ := World.cells?_some (hF i hi)
 rw [add0] at hcell
 have g0 := hcell 0 (by omega)
 have g1 := hcell 1 (by omega)
 simp only [add0, Nat.add_zero, List.getElem?_cons_zero, List.getElem?_cons_succ] at g0 g1
 exact ⟨g0, g1⟩
theorem cells25s : Tryz.prog.cellsOf 25 = 2 := by kernel_rfl
theorem cells28s : Tryz.prog.cellsOf 28 = 2 := by kernel_rfl
theorem cells29s : Tryz.prog.cellsOf 29 = 1 := by kernel_rfl
theorem cells22s : Tryz.prog.cellsOf 22 = 1 := by kernel_rfl
theorem cells23s : Tryz.prog.cellsOf 23 = 1 := by kernel_rfl
theorem cells26s : Tryz.prog.cellsOf 26 = 1 := by kernel_rfl
theorem zs_at {H : Type} {enc : TypeId × Value → H} {W : World} {fuel : Nat} {v : Value} {d : DataW H} {p : List MemPlace}
  (h : DataW.trod enc Tryz.prog W 0 (fun _ => true) true fuel 29 [v] = some (d, p)) (hb : Rows.uptoBulk d ≤ 1048576) : ∃ ao l ca, v = .slice ao (l : List Int).length ca ∧ l.length ≤ 1048576 ∧ l.length ≤ ca ∧ Kd.ZsAt W ao l := by
 rcases open_slice Tryz.underlying29 h with ⟨hcs, _⟩ | ⟨a, len, cap, m, n, D, Pl, hcs, _, hl, hm, hmm, hx, hc⟩
 ·simp at hcs
  subst hcs
  exact ⟨none, [], 0, rfl, by simp, by simp, fun h => absurd rfl h⟩
 simp at hcs
 subst hcs
 simp only [if_true] at hmm
 subst hmm
 simp only [Prod.mk.injEq] at hx
 have hlen : len ≤ 1048576 := by
  rw [hx.1] at hb
  simp only [Rows.uptoBulk] at hb
  have := length_le ((List.range len).map D)
  simp at this
  omega
 have hall : ∀ i, i < len → ∃ q : Int, W.cells? 0 (a.add (i * 1)) 1 = some [.int .i64 q] := by
  intro i hi
  obtain ⟨cs', hc', ht⟩ := hc i (by omega)
  rw [cells3] at hc'
  obtain ⟨_, hl', _⟩ := World.cells?_some hc'
  obtain ⟨c0, rfl⟩ := List.length_eq_one_iff.1 hl'
  obtain ⟨s0, e0, _⟩ := DataW.trod_int Tryz.underlying3 ht
  simp at e0
  subst e0
  exact ⟨s0, hc'⟩
 obtain ⟨F, hF⟩ := choose_lt hall
 refine ⟨some a, (List.range len).map F, m, by simp, by simp; omega, by simp; omega, fun h0 => ?_⟩
 have h0' : 0 < len := by cases len with | zero => simp at h0 | succ n => omega
 obtain ⟨b, off, spot⟩ := a
 have hsp : spot = none := by
  obtain ⟨_, hl', hcell'⟩ := World.cells?_some (hF 0 h0')
  have g0 := hcell' 0 (by omega)
  have hsp := World.cell?_spot (g0.trans rfl)
  simp [Addr.add] at hsp
  exact hsp
 subst hsp
 refine ⟨b, off, rfl, fun i hi => ?_⟩
 simp at hi
 have he : ((List.range len).map F)[i]'(by simpa using hi) = F i := by simp
 rw [he]
 obtain ⟨_, _, hcell⟩ := World.cells?_some (hF i hi)
 rw [add0] at hcell
 have g0 := hcell 0 (by omega)
 simp only [add0, Nat.add_zero, Nat.mul_one, List.getElem?_cons_zero] at g0
 exact g0
theorem sch_at {H : Type} {enc : TypeId × Value → H} {W : World} {fuel : Nat} {c0 c1 : Value} {d : DataW H} {p : List MemPlace}
  (h : DataW.trod enc Tryz.prog W 0 (fun _ => true) true fuel 25 [c0, c1] = some (d, p)) (hb : Rows.uptoBulk d ≤ 1048576) :
  ∃ fo l1 cf no l2 cn, c0 = .slice fo (l1 : List Kit.FT).length cf ∧ c1 = .slice no (l2 : List (ByteArray × ByteArray)).length cn ∧ l1.length ≤ cf ∧ Kit.RowAt (fun b => b < W.heap.size) W 1048576 fo l1 ∧ Kit.NotesAt W no l2 := by
 obtain ⟨xs, m2, _, hd, _, hxs, hf⟩ := DataW.trod_struct Tryz.underlying25 h
 obtain ⟨y0, y1, rfl⟩ := list2 xs (hxs.trans rfl)
 have f0 : DataW.trod enc Tryz.prog W 0 (fun _ => true) true m2 22 ((([c0, c1] : List Value).drop 0).take (Tryz.prog.cellsOf 22)) = some y0 := hf 0 _ rfl
 have f1 : DataW.trod enc Tryz.prog W 0 (fun _ => true) true m2 23 ((([c0, c1] : List Value).drop 1).take (Tryz.prog.cellsOf 23)) = some y1 := hf 1 _ rfl
 rw [cells22s] at f0
 rw [cells23s] at f1
 simp only [List.drop_zero, List.drop_succ_cons, List.take_succ_cons, List.take_zero] at f0 f1
 simp only [Prod.mk.injEq] at hd
 rw [hd.1] at hb
 simp only [Rows.uptoBulk] at hb
 have hy0 : Rows.uptoBulk y0.1 ≤ Rows.uptoBulkAll ([y0, y1].map fun x => x.1) := part_le (List.mem_map_of_mem (by simp))
 have hy1 : Rows.uptoBulk y1.1 ≤ Rows.uptoBulkAll ([y0, y1].map fun x => x.1) := part_le (List.mem_map_of_mem (by simp))
 obtain ⟨fo, l1, cf, rfl, h1, h2⟩ := fields_at 1048576 (Nat.le_refl _) (d := y0.1) (p := y0.2) f0 (by omega)
 obtain ⟨no, l2, cn, rfl, h3⟩ := notes_at (d := y1.1) (p := y1.2) f1 (by omega)
 exact ⟨fo, l1, cf, no, l2, cn, rfl, rfl, h1, h2, h3⟩
theorem side_at {H : Type} {enc : TypeId × Value → H} {W : World} {fuel : Nat} {cs : List Value} {d : DataW H} {p : List MemPlace} (hl : cs.length = 5)
  (h : DataW.trod enc Tryz.prog W 0 (fun _ => true) true fuel 31 cs = some (d, p)) (hb : Rows.uptoBulk d ≤ 1048576) :
  ∃ fo l1 cf no l2 cn br bo bn bc po k pc, cs = [.slice fo (l1 : List Kit.FT).length cf, .slice no (l2 : List (ByteArray × ByteArray)).length cn, .int .i64 br, .slice bo bn bc, .slice po (k : List Int).length pc] ∧
   l1.length ≤ cf ∧ Kit.RowAt (fun b => b < W.heap.size) W 1048576 fo l1 ∧ Kit.NotesAt W no l2 ∧ k.length ≤ 1048576 ∧ k.length ≤ pc ∧ Kd.ZsAt W po k := by
 obtain ⟨c0, c1, c2, c3, c4, rfl⟩ := list5 cs hl
 obtain ⟨xs, m2, _, hd, _, hxs, hf⟩ := DataW.trod_struct Tryz.underlying31 h
 obtain ⟨y0, y1, y2, rfl⟩ := list3 xs (hxs.trans rfl)
 have f0 : DataW.trod enc Tryz.prog W 0 (fun _ => true) true m2 25 ((([c0, c1, c2, c3, c4] : List Value).drop 0).take (Tryz.prog.cellsOf 25)) = some y0 := hf 0 _ rfl
 have f1 : DataW.trod enc Tryz.prog W 0 (fun _ => true) true m2 28 ((([c0, c1, c2, c3, c4] : List Value).drop 2).take (Tryz.prog.cellsOf 28)) = some y1 := hf 1 _ rfl
 have f2 : DataW.trod enc Tryz.prog W 0 (fun _ => true) true m2 29 ((([c0, c1, c2, c3, c4] : List Value).drop 4).take (Tryz.prog.cellsOf 29)) = some y2 := hf 2 _ rfl
 rw [cells25s] at f0
 rw [cells28s] at f1
 rw [cells29s] at f2
 simp only [List.drop_zero, List.drop_succ_cons, List.take_succ_cons, List.take_zero] at f0 f1 f2
 simp only [Prod.mk.injEq] at hd
 rw [hd.1] at hb
 simp only [Rows.uptoBulk] at hb
 have hy0 : Rows.uptoBulk y0.1 ≤ Rows.uptoBulkAll ([y0, y1, y2].map fun x => x.1) := part_le (List.mem_map_of_mem (by simp))
 have hy2 : Rows.uptoBulk y2.1 ≤ Rows.uptoBulkAll ([y0, y1, y2].map fun x => x.1) := part_le (List.mem_map_of_mem (by simp))
 obtain ⟨fo, l1, cf, no, l2, cn, rfl, rfl, h1, h2, h3⟩ := sch_at (d := y0.1) (p := y0.2) f0 (by omega)
 obtain ⟨po, k, pc, rfl, h4, h5, h6⟩ := zs_at (d := y2.1) (p := y2.2) f2 (by omega)
 obtain ⟨zs, m3, _, _, _, hzs, hg⟩ := DataW.trod_struct Tryz.underlying28 f1
 obtain ⟨w0, w1, rfl⟩ := list2 zs (hzs.trans rfl)
 have g0 : DataW.trod enc Tryz.prog W 0 (fun _ => true) true m3 3 ((([c2, c3] : List Value).drop 0).take (Tryz.prog.cellsOf 3)) = some w0 := hg 0 _ rfl
 have g1 : DataW.trod enc Tryz.prog W 0 (fun _ => true) true m3 26 ((([c2, c3] : List Value).drop 1).take (Tryz.prog.cellsOf 26)) = some w1 := hg 1 _ rfl
 rw [cells3] at g0
 rw [cells26s] at g1
 simp only [List.drop_zero, List.drop_succ_cons, List.take_succ_cons, List.take_zero] at g0 g1
 obtain ⟨br, e0, _⟩ := DataW.trod_int Tryz.underlying3 g0
 have hq : ∃ bo bn bc, c3 = .slice bo bn bc := by
  rcases open_slice Tryz.underlying26 g1 with ⟨hcs, _⟩ | ⟨a, len, cap, m, n, D, Pl, hcs, _⟩
  ·simp at hcs
   exact ⟨none, 0, 0, hcs⟩
  simp at hcs
  exact ⟨_, _, _, hcs⟩
 obtain ⟨bo, bn, bc, rfl⟩ := hq
 simp at e0
 subst e0
 exact ⟨fo, l1, cf, no, l2, cn, br, bo, bn, bc, po, k, pc, rfl, h1, h2, h3, h4, h5, h6⟩
end Go.Proofs.YthhpamhfnpacpaaGreatDoor.kindR
namespace Go.Proofs.YthhpamhfnpacpaaGreatDoor.Kit
open Go.RowKit Go.Deep
theorem tk {P : Program} {ops : Array Oper} {Q : Exit → Act → World → Prop} {md : Region.Mode} {S : World → Prop} {oi : Oper} {v : Value} {fuel : Nat} {listed : Array Bool} {a a' : Act} {w : World} (i : Nat) (h : wpAnyH P md ops Q S fuel (listed.setIfInBounds i true) a' w) (hi : ops[i]? = some oi := by (simp only [List.getElem?_toArray, List.getElem?_cons_succ, List.getElem?_cons_zero]; exact rfl))
  (hy : YieldsIf P ops S oi v a := by exact Or.inl ⟨by kernel_rfl, by (intro w hSw; (try dsimp only at hSw); go_split_ands; go_simp; (try with_reducible rfl))⟩) (ha : a.put oi.dst v = a' := by (simp only [Act.put, List.setIfInBounds_toArray, List.set_cons_succ, List.set_cons_zero]; exact rfl))
  (hQ : ∀ c a w, Q (.panic c) (a.put oi.dst v) w → Q (.panic c) a w := by exact fun _ _ _ h => h) (hs : Region.noSelect ops = true := by kernel_rfl) (hf : Region.free md ops listed i = true := by kernel_rfl) (hr : (Region.ready md ops listed).contains i = true := by kernel_rfl) (hS : S w := by assumption) : wpAnyH P md ops Q S (fuel + 1) listed a w := by
 subst ha
 exact wpAnyH_take hi hs hf hr hQ hy hS h
theorem sk {P : Program} {ops : Array Oper} {Q : Exit → Act → World → Prop} {md : Region.Mode} {S : World → Prop} {oi : Oper} {fuel : Nat} {listed : Array Bool} {a a' : Act} {w : World} (i : Nat) (h : wpAnyH P md ops Q S fuel (listed.setIfInBounds i true) a' w) (hi : ops[i]? = some oi := by (simp only [List.getElem?_toArray, List.getElem?_cons_succ, List.getElem?_cons_zero]; exact rfl))
  (hy : YieldsIf P ops S oi undef a := by exact Or.inr ⟨by kernel_rfl, rfl⟩) (ha : a.put oi.dst undef = a' := by (simp only [Act.put, List.setIfInBounds_toArray, List.set_cons_succ, List.set_cons_zero]; exact rfl))
  (hQ : ∀ c a w, Q (.panic c) (a.put oi.dst undef) w → Q (.panic c) a w := by exact fun _ _ _ h => h) (hs : Region.noSelect ops = true := by kernel_rfl) (hf : Region.free md ops listed i = true := by kernel_rfl) (hr : (Region.ready md ops listed).contains i = true := by kernel_rfl) (hS : S w := by assumption) : wpAnyH P md ops Q S (fuel + 1) listed a w := by
 subst ha
 exact wpAnyH_take hi hs hf hr hQ hy hS h
theorem rd1 {P : Program} {ops : Array Oper} {Q : Exit → Act → World → Prop} {md : Region.Mode} {S : World → Prop} {fuel : Nat} {listed : Array Bool} {a : Act} {w : World} {o : Oper} (i : Nat)
  (h : ∀ K' : Act → World → Prop, Shut (∀ a w, S w → (S w → wpAnyH P md ops Q S fuel (listed.setIfInBounds i true) a w) → K' a w) → if Region.wanted o (yielded ops a.tmps) = true then Oper.wp P o a w K' Q else K' (a.put o.dst undef) w) (ho : ops[i]? = some o := by (simp only [List.getElem?_toArray, List.getElem?_cons_succ, List.getElem?_cons_zero]; exact rfl)) (hr : Region.ready md ops listed = [i] := by kernel_rfl) : wpAnyH P md ops Q S (fuel + 1) listed a w := wpAnyH_ready hr (by simp) (AllReadyH.cons ho h AllReadyH.nil)
theorem lA {α : Type} (l : List α) (i : Nat) (a : α) : l.toArray.setIfInBounds i a = (l.set i a).toArray := by simp
theorem lB {α : Type} (a b : α) (l : List α) (n : Nat) : (a :: l).set (n + 1) b = a :: l.set n b := rfl
theorem lC {α : Type} (a b : α) (l : List α) : (a :: l).set 0 b = b :: l := rfl
theorem rd2 {P : Program} {ops : Array Oper} {Q : Exit → Act → World → Prop} {md : Region.Mode} {S : World → Prop} {fuel : Nat} {listed : Array Bool} {a : Act} {w : World} {o o' : Oper} (i i' : Nat)
  (h : ∀ K' : Act → World → Prop, Shut (∀ a w, S w → (S w → wpAnyH P md ops Q S fuel (listed.setIfInBounds i true) a w) → K' a w) → if Region.wanted o (yielded ops a.tmps) = true then Oper.wp P o a w K' Q else K' (a.put o.dst undef) w) (h' : ∀ K' : Act → World → Prop, Shut (∀ a w, S w → (S w → wpAnyH P md ops Q S fuel (listed.setIfInBounds i' true) a w) → K' a w) → if Region.wanted o' (yielded ops a.tmps) = true then Oper.wp P o' a w K' Q else K' (a.put o'.dst undef) w) (ho : ops[i]? = some o := by (simp only [List.getElem?_toArray, List.getElem?_cons_succ, List.getElem?_cons_zero]; exact rfl)) (ho' : ops[i']? = some o' := by (simp only [List.getElem?_toArray, List.getElem?_cons_succ, List.getElem?_cons_zero]; exact rfl)) (hr : Region.ready md ops listed = [i, i'] := by kernel_rfl) : wpAnyH P md ops Q S (fuel + 1) listed a w := wpAnyH_ready hr (by simp) (AllReadyH.cons ho h (AllReadyH.cons ho' h' AllReadyH.nil))
end Go.Proofs.YthhpamhfnpacpaaGreatDoor.Kit
namespace Go.Proofs.YthhpamhfnpacpaaGreatDoor.Kit
open Go.RowKit Go.Shelf Go.Deep
theorem no_depth {l : Nat} (h : (Fence.wide.inRound l).depth.isSome = true) : False := by cases h
theorem rows_round {P : Program} {row : String} {args : Array Value} {w : World} {R : Value → World → Prop} {l n : Nat} (h : Rows P row args w R) : RowsIn (Fence.wide.inRound l) n P row args w R := fun c cs _ =>
 let ⟨v, w', r, s⟩ := h c cs
 ⟨v, w', r, stepsIn_wide.2 s⟩
theorem op_round {P : Program} {ops : Array Oper} {Q : Exit → Act → World → Prop} {i : Nat} {K : Act → World → Prop} {a : Act} {w : World} {l n : Nat} (hd : ∀ o, ops[i]? = some o → ∀ c, o.op ≠ .defer c) (hlo : ¬ LetsOut Q)
  (h : wpOp P ops Q i K a w) : wpOpIn (Fence.wide.inRound l) n P ops Q i K a w := by
 unfold wpOp at h
 unfold wpOpIn
 cases ho : ops[i]? with
 | none => simpa [ho] using h
 | some o =>
  simp only [ho] at h ⊢
  split
  ·rename_i hw
   simp only [hw, if_true] at h
   have h1 : o.wp P a w K Q := h.resolve_right fun h => hlo h.2
   refine ⟨fun _ _ => trivial, ?_⟩
   have e : o.semAt (Fence.wide.inRound l).round a.eval = execOp a.eval o := Oper.semAt_some l _ _ (hd o ho)
   rw [e]
   unfold Oper.wp at h1
   generalize (execOp a.eval o).run P w = r at h1 ⊢
   cases r with
   | ok x w' =>
    cases x <;> simp only [Oper.upon] at h1 <;> simp only [Oper.uponIn] <;>
     first
      | exact h1
      | exact ⟨fun h => (no_depth h).elim, CallsIn.inRound l (callsIn_wide.2 h1)⟩
      | exact ⟨fun h => (no_depth h).elim, rows_round h1⟩
      | exact h1.elim
   | halt x w' => cases x <;> simp only [Oper.upon] at h1 <;> simp only [Oper.uponIn] <;> exact h1
  rename_i hw
  simp only [hw] at h
  exact ⟨fun _ _ => trivial, h⟩
theorem any_round {P : Program} {md : Region.Mode} {ops : Array Oper} {Q : Exit → Act → World → Prop} {l n : Nat} (hd : ∀ (i : Nat) (o : Oper), ops[i]? = some o → ∀ c, o.op ≠ Op.defer c) (hlo : ¬ LetsOut Q) :
  ∀ (fuel : Nat) (listed : Array Bool) (a : Act) (w : World), wpAny P md ops Q fuel listed a w → wpAnyIn (Fence.wide.inRound l) n P md ops Q fuel listed a w
 | 0, _, _, _, h => h
 | fuel + 1, listed, a, w, h => ⟨h.1, fun i hi => op_round (hd i) hlo (wpOp_mono (fun a' w' => any_round hd hlo fuel _ a' w') (h.2 i hi))⟩
theorem region_round {P : Program} {ops : Array Oper} {Q : Exit → Act → World → Prop} {S : World → Prop} {l n id : Nat} {a : Act} {w : World} (hm : P.follows .mixedOrders = true) (hd : ∀ (i : Nat) (o : Oper), ops[i]? = some o → ∀ c, o.op ≠ Op.defer c) (hlo : ¬ LetsOut Q)
  (h : wpAnyH P .any ops Q S ops.size (Array.replicate ops.size false) a w.drew) : (Code.region id ops true).wpIn (Fence.wide.inRound l) n P Q a w :=
 wpIn_region_any hm (any_round hd hlo _ _ _ _ (wpAny_of_held _ _ _ _ h))
end Go.Proofs.YthhpamhfnpacpaaGreatDoor.Kit
namespace Go.Proofs.YthhpamhfnpacpaaGreatDoor.Kit
open Go.RowKit Go.Shelf Go.Deep
def noDefer (ops : Array Oper) : Bool := ops.all fun o => match o.op with | .defer _ => false | _ => true
theorem noDefer_spec {ops : Array Oper} (h : noDefer ops = true) (i : Nat) (o : Oper) (ho : ops[i]? = some o) (c : Call) : o.op ≠ Op.defer c := fun e => by
 unfold noDefer at h
 rw [Array.all_eq_true_iff_forall_mem] at h
 have := h o (Array.mem_of_getElem? ho)
 rw [e] at this
 cases this
end Go.Proofs.YthhpamhfnpacpaaGreatDoor.Kit
namespace Go.Proofs.YthhpamhfnpacpaaGreatDoor.Kit
open Go.RowKit Go.Shelf Go.Deep
open Kd (Ans cell5 cell2)
attribute [local go_sem] run_store_func
def bareF : Nat → FT → FT
 | 0, f => f
 | d + 1, f => if f.kind = 19 ∨ f.kind = 20 then (match f.kids with
  | c :: _ => .mk f.name f.nul (bareF d c).kind (bareF d c).width (bareF d c).id (bareF d c).index (bareF d c).kids
  | [] => f) else .mk f.name f.nul f.kind f.width f.id f.index (f.kids.map (bareF d))
def okB : Nat → FT → Prop
 | 0, f => ¬ (f.kind = 19 ∨ f.kind = 20) ∧ f.kids = []
 | d + 1, f => (f.kind = 19 ∨ f.kind = 20 → f.kids ≠ []) ∧ ∀ g ∈ f.kids, okB d g
theorem bareF_name : ∀ (d : Nat) (f : FT), (bareF d f).name = f.name
 | 0, f => rfl
 | d + 1, f => by
  unfold bareF
  split
  ·split <;> rfl
  rfl
theorem bareF_nul : ∀ (d : Nat) (f : FT), (bareF d f).nul = f.nul
 | 0, f => rfl
 | d + 1, f => by
  unfold bareF
  split
  ·split <;> rfl
  rfl
def FVx (d : Nat) (W w' : World) (f : FT) (v : Value) : Prop := ∃ ko kc, v = .agg #[.string f.name, .bool f.nul, .int .i64 f.kind, .int .i64 f.width, .int .i64 f.id, .int .i64 f.index, .slice ko f.kids.length kc] ∧ f.kids.length ≤ kc ∧ RowAt (fun b => W.heap.size ≤ b ∧ b < w'.heap.size) w' d ko f.kids
end Go.Proofs.YthhpamhfnpacpaaGreatDoor.Kit
namespace Go.Proofs.YthhpamhfnpacpaaGreatDoor.Kit
structure IsOrd {α : Type} (S : α → Prop) (c : α → α → Int) : Prop where
 anti : ∀ a b, S a → S b → c b a = - c a b
 trans : ∀ a b d, S a → S b → S d → c a b ≤ 0 → c b d ≤ 0 → c a d ≤ 0
 zero : ∀ a b, S a → S b → (c a b = 0 ↔ a = b)
namespace IsOrd
variable {α β : Type} {S : α → Prop} {c : α → α → Int}
theorem congr (h : IsOrd S c) {c' : α → α → Int} (e : ∀ a b, S a → S b → c' a b = c a b) : IsOrd S c' :=
 ⟨fun a b ha hb => by rw [e b a hb ha, e a b ha hb]; exact h.anti a b ha hb, fun a b d ha hb hd => by rw [e a b ha hb, e b d hb hd, e a d ha hd]; exact h.trans a b d ha hb hd, fun a b ha hb => by rw [e a b ha hb]; exact h.zero a b ha hb⟩
end IsOrd
end Go.Proofs.YthhpamhfnpacpaaGreatDoor.Kit
namespace Go.Proofs.YthhpamhfnpacpaaGreatDoor.Kit
inductive VT where
 | mk (nul : Bool) (num : Int) (text : ByteArray) (list : List VT)
deriving Inhabited
namespace VT
def nul : VT → Bool | mk n _ _ _ => n
def num : VT → Int | mk _ n _ _ => n
def text : VT → ByteArray | mk _ _ t _ => t
def list : VT → List VT | mk _ _ _ l => l
theorem ext' {a b : VT} (h1 : a.nul = b.nul) (h2 : a.num = b.num) (h3 : a.text = b.text) (h4 : a.list = b.list) : a = b := by
 cases a; cases b
 simp only [nul, num, text, list] at h1 h2 h3 h4
 subst h1 h2 h3 h4
 rfl
end VT
def is64 (n : Int) : Prop := -9223372036854775808 ≤ n ∧ n ≤ 9223372036854775807
theorem bytes_ext {a b : ByteArray} (h : a.data.toList = b.data.toList) : a = b := by
 cases a; cases b
 simp at h
 rw [h]
end Go.Proofs.YthhpamhfnpacpaaGreatDoor.Kit
namespace Go.Proofs.YthhpamhfnpacpaaGreatDoor.Kit
open Go.RowKit Go.Shelf Go.Deep
instance (n : Int) : Decidable (is64 n) := by unfold is64; infer_instance
structure VCells (W : World) (b o : Nat) (v : VT) (ao : Option Addr) (ca : Nat) : Prop where
 c0 : W.cell? ⟨b, o, none⟩ = some (.bool v.nul)
 c1 : W.cell? ⟨b, o + 1, none⟩ = some (.int .i64 v.num)
 c2 : W.cell? ⟨b, o + 2, none⟩ = some (.string v.text)
 c3 : W.cell? ⟨b, o + 3, none⟩ = some (.slice ao v.list.length ca)
def VOk (v : VT) : Prop := is64 v.num ∧ v.text.size ≤ big
def VRow (S : Nat → Prop) (W : World) : Nat → Option Addr → List VT → Prop
 | 0, _, l => l = []
 | d + 1, ao, l => l.length ≤ big ∧ (l ≠ [] → ∃ b o, ao = some ⟨b, o, none⟩ ∧ S b ∧ ∀ i (h : i < l.length), ∃ ao' ca', VCells W b (o + i * 4) l[i] ao' ca' ∧ l[i].list.length ≤ ca' ∧ VOk l[i] ∧ VRow S W d ao' l[i].list)
theorem VCells.kept {W W' : World} {b o : Nat} {v : VT} {ao : Option Addr} {ca : Nat} (h : VCells W b o v ao ca) (e : W'.heap[b]? = W.heap[b]?) : VCells W' b o v ao ca := by
 have k : ∀ j, W'.cell? ⟨b, j, none⟩ = W.cell? ⟨b, j, none⟩ := fun j => World.cell?_of_block (w := W) e
 exact ⟨(k _).trans h.c0, (k _).trans h.c1, (k _).trans h.c2, (k _).trans h.c3⟩
theorem VRow.kept {S : Nat → Prop} {W W' : World} (k : KpOf S W W') : ∀ {d : Nat} {ao : Option Addr} {l : List VT}, VRow S W d ao l → VRow S W' d ao l
 | 0, _, _, h => h
 | _ + 1, _, _, h => ⟨h.1, fun hn => by
  obtain ⟨b, o, e, hb, hi⟩ := h.2 hn
  refine ⟨b, o, e, hb, fun i hl => ?_⟩
  obtain ⟨ao', ca', hc, hle, hv, hr⟩ := hi i hl
  exact ⟨ao', ca', hc.kept (k b hb), hle, hv, VRow.kept k hr⟩⟩
theorem VRow.len {S : Nat → Prop} {W : World} {d : Nat} {ao : Option Addr} {l : List VT} (h : VRow S W d ao l) : l.length ≤ big := by
 cases d with
 | zero => have : l = [] := h; subst this; simp [big]
 | succ d => exact h.1
def vdeep : Nat → List VT → Prop
 | 0, l => l = []
 | d + 1, l => ∀ v ∈ l, vdeep d v.list
theorem VRow.more {S : Nat → Prop} {W : World} : ∀ {d e : Nat} {ao : Option Addr} {l : List VT}, d ≤ e → VRow S W d ao l → VRow S W e ao l
 | 0, 0, _, _, _, h => h
 | 0, e + 1, _, l, _, h => by have : l = [] := h; subst this; exact ⟨by simp [big], fun h => absurd rfl h⟩
 | d + 1, 0, _, _, h, _ => by omega
 | d + 1, e + 1, _, _, hle, h => ⟨h.1, fun hn => by
  obtain ⟨b, o, e, hb, hi⟩ := h.2 hn
  refine ⟨b, o, e, hb, fun i hl => ?_⟩
  obtain ⟨ao', ca', hc, hle', hv, hr⟩ := hi i hl
  exact ⟨ao', ca', hc, hle', hv, VRow.more (by omega) hr⟩⟩
def numB (k n : Int) : Bool :=
 if k = 2 then n == 0 || n == 1 else if k = 3 then decide (-128 ≤ n) && decide (n ≤ 127) else if k = 4 then decide (-32768 ≤ n) && decide (n ≤ 32767) else if k = 5 then decide (-2147483648 ≤ n) && decide (n ≤ 2147483647)
 else if k = 7 then decide (0 ≤ n) && decide (n ≤ 255) else if k = 8 then decide (0 ≤ n) && decide (n ≤ 65535) else if k = 9 then decide (0 ≤ n) && decide (n ≤ 4294967295)
 else k == 6 || k == 10 || k == 11
def okF : Nat → FT → Prop
 | 0, _ => False
 | n + 1, f => tableB f = true ∧ ∀ k ∈ f.kids, okF n k
def pre : Nat → List FT → List FT
 | 0, _ => []
 | d + 1, l => l.flatMap fun f => f :: pre d f.kids
def deep : Nat → List FT → Prop
 | 0, l => l = []
 | d + 1, l => ∀ f ∈ l, deep d f.kids
theorem RowAt.deep {S : Nat → Prop} {W : World} : ∀ {d : Nat} {ao : Option Addr} {l : List FT}, RowAt S W d ao l → Kit.deep d l
 | 0, _, _, h => h
 | d + 1, _, l, h => fun f hf => by
  obtain ⟨i, hi, rfl⟩ := List.mem_iff_getElem.1 hf
  obtain ⟨b, o, _, _, hc⟩ := h.2 (fun e => by subst e; simp at hi)
  obtain ⟨ao', ca', _, _, hr⟩ := hc i hi
  exact RowAt.deep hr
theorem nodes_pre : ∀ (d : Nat) (l : List FT) (path : List Nat) (inD : Bool), (nodes d l path inD).map LS.fld = pre d l
 | 0, _, _, _ => rfl
 | d + 1, l, path, inD => by
  have key : ∀ n, n ≤ l.length → (upto d l path inD n).map LS.fld = (l.take n).flatMap fun f => f :: pre d f.kids := by
   intro n
   induction n with
   | zero => intro _; simp [upto_zero]
   | succ n ih =>
    intro hn
    have hx : LS.fld ⟨l, path ++ [n], inD⟩ = l[n] := by
     have hi : LS.idx ⟨l, path ++ [n], inD⟩ = n := by simp [LS.idx]
     unfold LS.fld
     rw [hi]
     simp [List.getElem?_eq_getElem (show n < l.length by omega)]
    have hb : l[n]! = l[n] := getElem!_pos l n (by omega)
    rw [upto_succ, List.map_append, ih (by omega), List.map_cons, nodes_pre d, hx, hb, List.take_succ_eq_append_getElem (by omega), List.flatMap_append]
    simp
  have := key l.length (Nat.le_refl _)
  rw [nodes_succ, this, List.take_length]
  rfl
theorem okF_of_pre : ∀ (d : Nat) (l : List FT), deep d l → (∀ x ∈ pre d l, tableB x = true) → ∀ k ∈ l, okF d k
 | 0, l, hd, _, k, hk => by have : l = [] := hd; subst this; cases hk
 | d + 1, l, hd, h, k, hk => by
  have hin : ∀ x ∈ k :: pre d k.kids, x ∈ pre (d + 1) l := fun x hx => List.mem_flatMap.2 ⟨k, hk, hx⟩
  exact ⟨h _ (hin _ (by simp)), okF_of_pre d k.kids (hd k hk) fun x hx => h _ (hin _ (by simp [hx]))⟩
theorem wrt_tab {m : Nat} {ahead : Int} {nameR : Bool} {idx i : Int} {tabR nulR inD : Bool} {f2 : Int} {kid tk : Bool} (h : wr m ahead nameR idx i tabR nulR inD f2 kid tk = 0) : tabR = true := by
 unfold wr at h
 cases tabR with
 | true => rfl
 | false => simp at h; split at h <;> (try split at h) <;> (try split at h) <;> (try split at h) <;> omega
theorem AllR.tab {N : List LS} (h : AllR N) : ∀ x ∈ N, tableB x.fld = true := fun x hx => by
 obtain ⟨i, hi, rfl⟩ := List.mem_iff_getElem.1 hx
 exact wrt_tab (h i hi)
theorem tab_kid {f : FT} (h : tableB f = true) (k : f.kind = 15 ∨ f.kind = 16 ∨ f.kind = 19 ∨ f.kind = 20) : f.kids ≠ [] := by
 unfold tableB at h
 intro e
 rw [e] at h
 rcases k with k | k | k | k <;> rw [k] at h <;> simp [leastK] at h
attribute [local go_sem] run_store_func
theorem wrapS (k : IntKind) (m : Int) (hm : 0 < m) (hm2 : m ≤ 2147483648) (hw : ∀ n : Int, k.wrap n = if 2 * m > n % (2 * m) ∧ n % (2 * m) ≥ m then n % (2 * m) - 2 * m else n % (2 * m)) (n : Int) : (n == wrap64 (k.wrap n)) = (decide (-m ≤ n) && decide (n ≤ m - 1)) := by
 have h0 := Int.emod_nonneg n (b := 2 * m) (by omega)
 have h1 := Int.emod_lt_of_pos n (b := 2 * m) (by omega)
 have h2 := Int.emod_add_mul_ediv n (2 * m)
 have hb : wrap64 (k.wrap n) = k.wrap n := by
  unfold wrap64
  rw [hw]
  split <;> omega
 rw [hb, hw]
 rw [Bool.eq_iff_iff]
 simp only [beq_iff_eq, Bool.and_eq_true, decide_eq_true_eq]
 constructor
 ·intro e
  split at e <;> omega
 rintro ⟨a, b⟩
 by_cases hn : 0 ≤ n
 ·have e : n % (2 * m) = n := Int.emod_eq_of_lt hn (by omega)
  rw [e, if_neg (by omega)]
 have e : n % (2 * m) = n + 2 * m := by
  rw [← Int.add_emod_right]
  exact Int.emod_eq_of_lt (by omega) (by omega)
 rw [e, if_pos (by omega)]
 omega
theorem wrapU (k : IntKind) (m : Int) (hm : 0 < m) (hm2 : m ≤ 4294967296) (hw : ∀ n : Int, k.wrap n = n % m) (n : Int) : (n == wrap64 (k.wrap n)) = (decide (0 ≤ n) && decide (n ≤ m - 1)) := by
 have h0 := Int.emod_nonneg n (b := m) (by omega)
 have h1 := Int.emod_lt_of_pos n (b := m) (by omega)
 have hb : wrap64 (k.wrap n) = k.wrap n := by
  unfold wrap64
  rw [hw]
  omega
 rw [hb, hw, Bool.eq_iff_iff]
 simp only [beq_iff_eq, Bool.and_eq_true, decide_eq_true_eq]
 constructor
 ·intro e; omega
 rintro ⟨a, b⟩
 exact (Int.emod_eq_of_lt a (by omega)).symm
theorem wrapI8 (n : Int) : (n == wrap64 (IntKind.i8.wrap n)) = (decide (-128 ≤ n) && decide (n ≤ 127)) := wrapS .i8 128 (by decide) (by decide) (fun n => by
 have h1 := Int.emod_lt_of_pos n (b := 256) (by omega)
 simp [IntKind.wrap, IntKind.bits, IntKind.signed, h1]) n
theorem wrapI16 (n : Int) : (n == wrap64 (IntKind.i16.wrap n)) = (decide (-32768 ≤ n) && decide (n ≤ 32767)) := wrapS .i16 32768 (by decide) (by decide) (fun n => by
 have h1 := Int.emod_lt_of_pos n (b := 65536) (by omega)
 simp [IntKind.wrap, IntKind.bits, IntKind.signed, h1]) n
theorem wrapI32 (n : Int) : (n == wrap64 (IntKind.i32.wrap n)) = (decide (-2147483648 ≤ n) && decide (n ≤ 2147483647)) := wrapS .i32 2147483648 (by decide) (by decide) (fun n => by
 have h1 := Int.emod_lt_of_pos n (b := 4294967296) (by omega)
 simp [IntKind.wrap, IntKind.bits, IntKind.signed, h1]) n
theorem wrapU8 (n : Int) : (n == wrap64 (IntKind.u8.wrap n)) = (decide (0 ≤ n) && decide (n ≤ 255)) := wrapU .u8 256 (by decide) (by decide) (fun n => by simp [IntKind.wrap, IntKind.bits, IntKind.signed]) n
theorem wrapU16 (n : Int) : (n == wrap64 (IntKind.u16.wrap n)) = (decide (0 ≤ n) && decide (n ≤ 65535)) := wrapU .u16 65536 (by decide) (by decide) (fun n => by simp [IntKind.wrap, IntKind.bits, IntKind.signed]) n
theorem wrapU32 (n : Int) : (n == wrap64 (IntKind.u32.wrap n)) = (decide (0 ≤ n) && decide (n ≤ 4294967295)) := wrapU .u32 4294967296 (by decide) (by decide) (fun n => by simp [IntKind.wrap, IntKind.bits, IntKind.signed]) n
theorem modU (m : Int) (hm : 0 < m) (n : Int) : (n == n % m) = (decide (0 ≤ n) && decide (n ≤ m - 1)) := by
 have h0 := Int.emod_nonneg n (b := m) (by omega)
 have h1 := Int.emod_lt_of_pos n (b := m) (by omega)
 rw [Bool.eq_iff_iff]
 simp only [beq_iff_eq, Bool.and_eq_true, decide_eq_true_eq]
 constructor
 ·intro e; omega
 rintro ⟨a, b⟩
 exact (Int.emod_eq_of_lt a (by omega)).symm
theorem modI32 (n : Int) : (n == wrap64 (wrap32 n)) = (decide (-2147483648 ≤ n) && decide (n ≤ 2147483647)) := by
 unfold wrap64 wrap32
 rw [Bool.eq_iff_iff]
 simp only [beq_iff_eq, Bool.and_eq_true, decide_eq_true_eq]
 constructor
 ·intro e; omega
 rintro ⟨a, b⟩; omega
theorem fitsNumber_any (k n : Int) (hk : 1 ≤ k ∧ k ≤ 20) (w : World) : Calls Tryz.prog 205 #[.int .i64 k, .int .i64 n] w fun e w' => e = .returned (.bool (numB k n)) ∧ w = w' := by
 have hk' : k = 1 ∨ k = 2 ∨ k = 3 ∨ k = 4 ∨ k = 5 ∨ k = 6 ∨ k = 7 ∨ k = 8 ∨ k = 9 ∨ k = 10 ∨ k = 11 ∨ k = 12 ∨ k = 13 ∨ k = 14 ∨ k = 15 ∨ k = 16 ∨ k = 17 ∨ k = 18 ∨ k = 19 ∨ k = 20 := by omega
 clear hk
 rcases hk' with rfl | rfl | rfl | rfl | rfl | rfl | rfl | rfl | rfl | rfl | rfl | rfl | rfl | rfl | rfl | rfl | rfl | rfl | rfl | rfl
 case inr.inl =>
  by_cases h0 : n = 0
  ·subst h0
   go_enter Tryz.func205, Tryz.ntmps205
   go_wp2
   go_ret
   exact ⟨rfl, rfl⟩
  have hb : (n == 0) = false := by simp [h0]
  have HB : Hid (numB 2 n = (n == 1)) := by show _ = _; simp [numB, hb]
  go_enter Tryz.func205, Tryz.ntmps205
  go_wp2
  go_ret
  exact ⟨by rw [HB.out]; rfl, rfl⟩
 all_goals
  go_enter Tryz.func205, Tryz.ntmps205
  go_wp2
  go_ret
  first
   | exact ⟨rfl, rfl⟩
   | exact ⟨congrArg (fun b => Ending.returned (.bool b)) (wrapI8 n), rfl⟩
   | exact ⟨congrArg (fun b => Ending.returned (.bool b)) (wrapI16 n), rfl⟩
   | exact ⟨congrArg (fun b => Ending.returned (.bool b)) (modI32 n), rfl⟩
   | exact ⟨congrArg (fun b => Ending.returned (.bool b)) (modU 256 (by decide) n), rfl⟩
   | exact ⟨congrArg (fun b => Ending.returned (.bool b)) (modU 65536 (by decide) n), rfl⟩
   | exact ⟨congrArg (fun b => Ending.returned (.bool b)) (modU 4294967296 (by decide) n), rfl⟩
   | exact ⟨congrArg (fun b => Ending.returned (.bool b)) (wrapI32 n), rfl⟩
   | exact ⟨congrArg (fun b => Ending.returned (.bool b)) (wrapU8 n), rfl⟩
   | exact ⟨congrArg (fun b => Ending.returned (.bool b)) (wrapU16 n), rfl⟩
   | exact ⟨congrArg (fun b => Ending.returned (.bool b)) (wrapU32 n), rfl⟩
structure Sc (w W : World) (sb : Nat) (l : Int) : Prop where
 kp : Keeps w W (fun k => k = sb)
 bx : W.heap[sb]? = some (.cells #[.int .i64 l] 322)
def FitQ (w : World) (sb : Nat) (x : Option Int) (e : Ending) (w' : World) : Prop := ∃ l', e = .returned (.bool x.isSome) ∧ Sc w w' sb l' ∧ ∀ l1, x = some l1 → l' = l1
theorem FitQ.no {w w' : World} {sb : Nat} {x : Option Int} {l : Int} {e : Ending} (hx : x = none) (he : e = .returned (.bool false)) (h : Sc w w' sb l) : FitQ w sb x e w' := ⟨l, by rw [he, hx]; rfl, h, fun _ h => by rw [hx] at h; cases h⟩
theorem FitQ.yes {w w' : World} {sb : Nat} {x : Option Int} {l : Int} {e : Ending} (hx : x = some l) (he : e = .returned (.bool true)) (h : Sc w w' sb l) : FitQ w sb x e w' := ⟨l, by rw [he, hx]; rfl, h, fun _ h => by rw [hx] at h; exact Option.some.inj h⟩
theorem FitQ.of {w w' : World} {sb : Nat} {x y : Option Int} {l : Int} {e : Ending} (hx : x = y) (he : e = .returned (.bool y.isSome)) (h : Sc w w' sb l) (hl : ∀ l1, y = some l1 → l = l1) : FitQ w sb x e w' := by subst hx; exact ⟨l, he, h, hl⟩
def FitC (w : World) (sb F : Nat) (a b : Value) (r : Int → Option Int) : Prop :=
 ∀ W l, Sc w W sb l → 0 ≤ l → l ≤ 4194304 → Calls Tryz.prog F #[.pointer (some ⟨sb, 0, none⟩), a, b] W fun e w' => FitQ W sb (r l) e w'
theorem Sc.alloc {w W : World} {sb : Nat} {l : Int} (h : Sc w W sb l) (o : Obj) : Sc w (W.alloc o) sb l :=
 ⟨h.kp.alloc o, (Below.heap_alloc W o sb (lt_of_heap h.bx)).trans h.bx⟩
theorem Sc.set {w W : World} {sb : Nat} {l : Int} (h : Sc w W sb l) (l' : Int) : Sc w (W.setCell ⟨sb, 0, none⟩ (.int .i64 l')) sb l' := by
 refine ⟨h.kp.setCell (fun _ => rfl) _, ?_⟩
 have hb := lt_of_heap h.bx
 have hx := h.bx
 simp only [World.setCell]
 rw [Array.getElem?_modify]
 simp [hx]
theorem Sc.drew {w W : World} {sb : Nat} {l : Int} (h : Sc w W sb l) : Sc w W.drew sb l := ⟨h.kp.drew, h.bx⟩
theorem Sc.cell {w W : World} {sb : Nat} {l : Int} (h : Sc w W sb l) : W.cell? ⟨sb, 0, none⟩ = some (.int .i64 l) := by
 have hx := h.bx
 simp [World.cell?, hx]
theorem Sc.frz {w W : World} {sb : Nat} {l : Int} (h : Sc w W sb l) : W.frozen? ⟨sb, 0, none⟩ = false := by
 have hx := h.bx
 simp [World.frozen?, hx]
theorem Sc.lt {w W : World} {sb : Nat} {l : Int} (h : Sc w W sb l) : sb < W.heap.size := lt_of_heap h.bx
def B7 (W : World) (B : Nat) (f0 : ByteArray) (f1 : Bool) (f2 f3 f4 f5 : Int) (ao : Option Addr) (n ca : Nat) : Prop := W.heap[B]? = some (.cells #[.string f0, .bool f1, .int .i64 f2, .int .i64 f3, .int .i64 f4, .int .i64 f5, .slice ao n ca] 58)
def B4 (W : World) (B : Nat) (v0 : Bool) (v1 : Int) (v2 : ByteArray) (vo : Option Addr) (m vc : Nat) : Prop := W.heap[B]? = some (.cells #[.bool v0, .int .i64 v1, .string v2, .slice vo m vc] 108)
theorem B7.cells {W : World} {B : Nat} {f0 : ByteArray} {f1 : Bool} {f2 f3 f4 f5 : Int} {ao : Option Addr} {n ca : Nat} (h : B7 W B f0 f1 f2 f3 f4 f5 ao n ca) :
  W.cell? ⟨B, 0, none⟩ = some (.string f0) ∧ W.cell? ⟨B, 1, none⟩ = some (.bool f1) ∧ W.cell? ⟨B, 2, none⟩ = some (.int .i64 f2) ∧ W.cell? ⟨B, 3, none⟩ = some (.int .i64 f3) ∧ W.cell? ⟨B, 4, none⟩ = some (.int .i64 f4) ∧ W.cell? ⟨B, 5, none⟩ = some (.int .i64 f5) ∧ W.cell? ⟨B, 6, none⟩ = some (.slice ao n ca) := by
 unfold B7 at h
 simp [World.cell?, h]
theorem B4.cells {W : World} {B : Nat} {v0 : Bool} {v1 : Int} {v2 : ByteArray} {vo : Option Addr} {m vc : Nat} (h : B4 W B v0 v1 v2 vo m vc) :
  W.cell? ⟨B, 0, none⟩ = some (.bool v0) ∧ W.cell? ⟨B, 1, none⟩ = some (.int .i64 v1) ∧ W.cell? ⟨B, 2, none⟩ = some (.string v2) ∧ W.cell? ⟨B, 3, none⟩ = some (.slice vo m vc) := by
 unfold B4 at h
 simp [World.cell?, h]
theorem Sc.base {w V W : World} {sb : Nat} {l : Int} (h : Sc V W sb l) (k : Keeps w V (fun k => k = sb)) : Sc w W sb l := ⟨k.tr h.kp, h.bx⟩
theorem Sc.self {w W : World} {sb : Nat} {l : Int} (h : Sc w W sb l) : Sc W W sb l := ⟨Keeps.refl _ _, h.bx⟩
theorem alloc3 (W : World) (a b c : Obj) : (((W.alloc a).alloc b).alloc c).drew.heap[W.heap.size]? = some a ∧ (((W.alloc a).alloc b).alloc c).drew.heap[W.heap.size + 1]? = some b ∧ (((W.alloc a).alloc b).alloc c).drew.heap[W.heap.size + 1 + 1]? = some c ∧ Gr W (((W.alloc a).alloc b).alloc c).drew := by
 have s1 : (W.alloc a).heap.size = W.heap.size + 1 := by simp
 have s2 : ((W.alloc a).alloc b).heap.size = W.heap.size + 1 + 1 := by simp
 refine ⟨?_, ?_, ?_, ((((Keeps.refl W _).alloc a).alloc b).alloc c).drew⟩
 ·exact (Below.heap_alloc ((W.alloc a).alloc b) c W.heap.size (by omega)).trans ((Below.heap_alloc (W.alloc a) b W.heap.size (by omega)).trans (heap_alloc_new W a))
 ·refine (Below.heap_alloc ((W.alloc a).alloc b) c (W.heap.size + 1) (by omega)).trans ?_
  have := heap_alloc_new (W.alloc a) b
  rw [s1] at this
  exact this
 have := heap_alloc_new ((W.alloc a).alloc b) c
 rw [s2] at this
 exact this
theorem fits_walk (f0 : ByteArray) (f1 : Bool) (f2 f3 f4 f5 : Int) (ao : Option Addr) (n ca : Nat) (v0 : Bool) (v1 : Int) (v2 : ByteArray) (vo : Option Addr) (m vc : Nat) (w : World) (sb : Nat) (r : Int → Option Int) (hv2 : v2.size ≤ big)
  (h70 : FitC w sb 190 (.agg #[.string f0, .bool f1, .int .i64 f2, .int .i64 f3, .int .i64 f4, .int .i64 f5, .slice ao n ca]) (.agg #[.bool v0, .int .i64 v1, .string v2, .slice vo m vc]) r) :
  FitC w sb 178 (.agg #[.string f0, .bool f1, .int .i64 f2, .int .i64 f3, .int .i64 f4, .int .i64 f5, .slice ao n ca]) (.agg #[.bool v0, .int .i64 v1, .string v2, .slice vo m vc]) (fun l => if (16 + v2.size : Int) ≤ l then r (l - (16 + v2.size)) else none) := by
 intro W l hs h0 h1
 have h70 := hidM h70
 have hz : v2.size ≤ 1000000000000 := hv2
 have hw1 : wrap64 (16 + (v2.size : Int)) = 16 + v2.size := by unfold wrap64; omega
 have hw2 : wrap64 (l - (16 + (v2.size : Int))) = l - (16 + v2.size) := by unfold wrap64; omega
 have c0 : ∀ o o', ((W.alloc o).alloc o').cell? ⟨sb, 0, none⟩ = some (.int .i64 l) := fun o o' => ((hs.alloc o).alloc o').cell
 have z0 : ∀ o o', ((W.alloc o).alloc o').frozen? ⟨sb, 0, none⟩ = false := fun o o' => ((hs.alloc o).alloc o').frz
 obtain ⟨V2, hV2⟩ := ex (((W.alloc (.cells #[.string f0, .bool f1, .int .i64 f2, .int .i64 f3, .int .i64 f4, .int .i64 f5, .slice ao n ca] 58)).alloc (.cells #[.bool v0, .int .i64 v1, .string v2, .slice vo m vc] 108)).setCell ⟨sb, 0, none⟩ (.int .i64 (l - (16 + v2.size))))
 have HS : Hid (Sc W V2 sb (l - (16 + v2.size))) := by rw [← hV2]; exact ((hs.self.alloc _).alloc _).set _
 have HK := hidM hs.kp
 have hne := hs.lt
 have b7 : B7 V2 W.heap.size f0 f1 f2 f3 f4 f5 ao n ca := by
  unfold B7
  rw [← hV2, heap_setCell_other _ ⟨sb, 0, none⟩ _ _ (by show W.heap.size ≠ sb; omega)]
  exact (Below.heap_alloc (W.alloc _) _ W.heap.size (by simp)).trans (heap_alloc_new W _)
 have b4 : B4 V2 (W.heap.size + 1) v0 v1 v2 vo m vc := by
  unfold B4
  rw [← hV2, heap_setCell_other _ ⟨sb, 0, none⟩ _ _ (by show W.heap.size + 1 ≠ sb; omega)]
  have e := heap_alloc_new (W.alloc (.cells #[.string f0, .bool f1, .int .i64 f2, .int .i64 f3, .int .i64 f4, .int .i64 f5, .slice ao n ca] 58)) (.cells #[.bool v0, .int .i64 v1, .string v2, .slice vo m vc] 108)
  rw [show (W.alloc (.cells #[.string f0, .bool f1, .int .i64 f2, .int .i64 f3, .int .i64 f4, .int .i64 f5, .slice ao n ca] 58)).heap.size = W.heap.size + 1 by simp] at e
  exact e
 obtain ⟨p0, p1, p2, p3, p4, p5, p6⟩ := b7.cells
 obtain ⟨q0, q1, q2, q3⟩ := b4.cells
 have s0 := HS.out.cell
 clear b7 b4 hs hne hv2 hz
 dsimp only
 obtain ⟨x, hx⟩ : ∃ x, x = (if (16 + v2.size : Int) ≤ l then r (l - (16 + v2.size)) else none) := ⟨_, rfl⟩
 rw [← hx]
 by_cases hle : (16 + v2.size : Int) ≤ l
 ·have hge : 0 ≤ l - (16 + (v2.size : Int)) := by omega
  have HB : Hid (l - (16 + (v2.size : Int)) ≤ 4194304) := by show _ ≤ _; omega
  have HX : Hid (x = r (l - (16 + v2.size))) := by rw [if_pos hle] at hx; exact hx
  clear h1 hle hx
  go_enter Tryz.func178, Tryz.ntmps178
  go_wp2
  go_region
  all_goals
   go_wp2_with (go_at_call 190; refine Hid.out ?_)
   unfold Hid
   refine Calls.mono (h70.out _ _ (HS.out.drew.base HK.out) hge HB.out) ?_
   rintro e w' ⟨l', rfl, hs', hr⟩
   have HE := hidM (And.intro hs' hr)
   clear hs' hr
   go_wp2_with fail
   go_ret
   exact .of HX.out rfl (HE.out.1.base HS.out.drew.kp) HE.out.2
 have HX : Hid (x = none) := by rw [if_neg hle] at hx; exact hx
 have hge : ¬ 0 ≤ l - (16 + (v2.size : Int)) := by omega
 clear h1 hle hx
 go_enter Tryz.func178, Tryz.ntmps178
 go_wp2
 go_region
 all_goals
  go_wp2
  go_ret
  exact .no HX.out rfl HS.out.drew
theorem type_null (f0 : ByteArray) (f1 : Bool) (f2 : Int) (f3 f4 f5 : Int) (ao : Option Addr) (n ca : Nat) (v1 : Int) (v2 : ByteArray) (vo : Option Addr) (m vc : Nat) (w W : World) (sb : Nat) (l : Int) (x : Option Int) (b1 b2 b3 : Bool) (hb1 : (v1 == 0) = b1) (hb2 : v2.toList.isEmpty = b2) (hb3 : ((m : Int) == 0) = b3) (hs : Sc w W sb l) (hx : x = if (f1 && b1 && b2 && b3) = true then some l else none) :
  Calls Tryz.prog 190 #[.pointer (some ⟨sb, 0, none⟩), .agg #[.string f0, .bool f1, .int .i64 f2, .int .i64 f3, .int .i64 f4, .int .i64 f5, .slice ao n ca], .agg #[.bool true, .int .i64 v1, .string v2, .slice vo m vc]] W fun e w' => FitQ W sb x e w' := by
 have HS := hidM hs.self
 clear hs
 cases f1 <;> cases b1 <;> cases b2 <;> cases b3 <;> simp only [Bool.and_true, Bool.and_false, if_true, if_false, Bool.false_eq_true] at hx
 all_goals
  have HX := hidM hx
  clear hx
  go_enter Tryz.func190, Tryz.ntmps190
  go_wp2
  go_region
  all_goals
   go_wp2
   go_ret
   first | exact .no HX.out rfl ((HS.out.alloc _).alloc _).drew | exact .yes HX.out rfl ((HS.out.alloc _).alloc _).drew
theorem type_num (f0 : ByteArray) (f1 : Bool) (f2 : Int) (f3 f4 f5 : Int) (ao : Option Addr) (n ca : Nat) (v1 : Int) (v2 : ByteArray) (vo : Option Addr) (m vc : Nat) (w W : World) (sb : Nat) (l : Int) (x : Option Int) (b1 b2 b3 : Bool) (hb1 : (v1 == 0) = b1) (hb2 : v2.toList.isEmpty = b2) (hb3 : ((m : Int) == 0) = b3) (hs : Sc w W sb l) (hk : 1 ≤ f2 ∧ f2 ≤ 11) (nb : Bool) (hnb : numB f2 v1 = nb) (hx : x = if (b2 && b3 && nb) = true then some l else none) :
  Calls Tryz.prog 190 #[.pointer (some ⟨sb, 0, none⟩), .agg #[.string f0, .bool f1, .int .i64 f2, .int .i64 f3, .int .i64 f4, .int .i64 f5, .slice ao n ca], .agg #[.bool false, .int .i64 v1, .string v2, .slice vo m vc]] W fun e w' => FitQ W sb x e w' := by
 have HS := hidM hs.self
 clear hs
 have H93 : Hid (∀ W', Calls Tryz.prog 205 #[.int .i64 f2, .int .i64 v1] W' fun e w' => e = .returned (.bool nb) ∧ W' = w') := fun W' => by rw [← hnb]; exact fitsNumber_any f2 v1 (by omega) W'
 have e12 : (f2 == 12) = false := by simp; omega
 have e13 : (f2 == 13) = false := by simp; omega
 have e14 : (f2 == 14) = false := by simp; omega
 have e15 : (f2 == 15) = false := by simp; omega
 have e16 : (f2 == 16) = false := by simp; omega
 have e17 : (f2 == 17) = false := by simp; omega
 have e18 : (f2 == 18) = false := by simp; omega
 have e19 : (f2 == 19) = false := by simp; omega
 have e20 : (f2 == 20) = false := by simp; omega
 clear hk hnb
 cases b2 <;> cases b3 <;> cases nb <;> simp only [Bool.and_true, Bool.and_false, if_true, if_false, Bool.false_eq_true] at hx
 all_goals
  have HX := hidM hx
  clear hx
  go_enter Tryz.func190, Tryz.ntmps190
  go_wp2
  go_region
  all_goals
   go_wp2_with (go_at_call 205; refine (H93.out _).mono ?_; rintro e v1' ⟨rfl, rfl⟩)
   go_ret
   first | exact .no HX.out rfl ((((HS.out.alloc _).alloc _).alloc _).drew) | exact .yes HX.out rfl ((((HS.out.alloc _).alloc _).alloc _).drew)
end Go.Proofs.YthhpamhfnpacpaaGreatDoor.Kit
