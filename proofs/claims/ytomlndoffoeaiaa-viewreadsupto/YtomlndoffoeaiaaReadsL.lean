import Derived.Test.YtomlndoffoeaiaaReadsJ
namespace Go.Proofs.Ytomlndoffoeaiaa.Kit
open Go.RowKit Go.Deep
set_option linter.unusedVariables false

/-- a view that the law's script has seen -/
def seenV (ao : Option Addr) (n cap : Nat) (place : Int) (q : Option Nat) (ao' : Option Addr) (n' cap' : Nat) (place' who : Int) : Value :=
  .agg #[.slice ao n cap, .int .i64 place, .pointer (q.map fun b => ⟨b, 0, none⟩), .slice ao' n' cap', .int .i64 place', .int .i64 who]
def opV (k o a b : Int) : Value := .agg #[.int .i64 k, .int .i64 o, .int .i64 a, .int .i64 b]

theorem WatDone.sub {w w' : World} {q gq : Option Nat} {rs : List (Int × Int)} (h : WatDone w w' q gq rs) : Keeps w w' (fun k => q = some k ∨ gq = some k) := by
  obtain ⟨_, _, k, _⟩ := h
  exact k

/-- the two boxes of a step: what was seen, and the step -/
structure Boxes (w W : World) (s o : Array Value) (S : Nat → Prop) : Prop where
  seen : W.heap[w.heap.size]? = some (.cells s 93 (0, 0))
  op : W.heap[w.heap.size + 1]? = some (.cells o 29 (0, 0))
  keep : Keeps w W S
theorem Boxes.start (w : World) (s o : Array Value) : Boxes w ((w.alloc (.cells s 93)).alloc (.cells o 29)) s o (fun _ => False) := by
  have h := heap_alloc_new (w.alloc (.cells s 93)) (.cells o 29)
  have e : (w.alloc (.cells s 93)).heap.size = w.heap.size + 1 := Array.size_push ..
  have e2 : w.heap.size < (w.alloc (.cells s 93)).heap.size := by omega
  refine ⟨?_, ?_, ((Keeps.refl w _).alloc _).alloc _⟩
  · rw [((Keeps.refl (w.alloc (.cells s 93)) (fun _ => False)).alloc _).block _ e2 id]
    exact heap_alloc_new w _
  · rw [← e]; exact h
theorem Boxes.next {w W W' : World} {s o : Array Value} {S T : Nat → Prop} (h : Boxes w W s o S) (k : Keeps W W' T) (hT : ∀ j, T j → j < w.heap.size ∧ S j) : Boxes w W' s o S := by
  refine ⟨?_, ?_, h.keep.trans k fun j _ e => (hT j e).2⟩
  · rw [k.block _ (Array.getElem?_eq_some_iff.1 h.seen).1 fun e => by have := (hT _ e).1; omega]; exact h.seen
  · rw [k.block _ (Array.getElem?_eq_some_iff.1 h.op).1 fun e => by have := (hT _ e).1; omega]; exact h.op
theorem Boxes.mono {w W : World} {s o : Array Value} {S T : Nat → Prop} (h : Boxes w W s o S) (hT : ∀ j, S j → T j) : Boxes w W s o T := ⟨h.seen, h.op, h.keep.mono fun j _ e => hT j e⟩
theorem Boxes.cells {w W : World} {a b c d e f p q r t : Value} {S : Nat → Prop} (h : Boxes w W #[a, b, c, d, e, f] #[p, q, r, t] S) :
    (W.cell? ⟨w.heap.size, 0, none⟩ = some a ∧ W.cell? ⟨w.heap.size, 1, none⟩ = some b ∧ W.cell? ⟨w.heap.size, 2, none⟩ = some c ∧ W.cell? ⟨w.heap.size, 3, none⟩ = some d ∧ W.cell? ⟨w.heap.size, 4, none⟩ = some e ∧ W.cell? ⟨w.heap.size, 5, none⟩ = some f) ∧
    W.cell? ⟨w.heap.size + 1, 0, none⟩ = some p ∧ W.cell? ⟨w.heap.size + 1, 1, none⟩ = some q ∧ W.cell? ⟨w.heap.size + 1, 2, none⟩ = some r ∧ W.cell? ⟨w.heap.size + 1, 3, none⟩ = some t := by
  refine ⟨⟨?_, ?_, ?_, ?_, ?_, ?_⟩, ?_, ?_, ?_, ?_⟩
  · rw [cell_of_row _ _ 0 _ _ _ h.seen]; rfl
  · rw [cell_of_row _ _ 1 _ _ _ h.seen]; rfl
  · rw [cell_of_row _ _ 2 _ _ _ h.seen]; rfl
  · rw [cell_of_row _ _ 3 _ _ _ h.seen]; rfl
  · rw [cell_of_row _ _ 4 _ _ _ h.seen]; rfl
  · rw [cell_of_row _ _ 5 _ _ _ h.seen]; rfl
  · rw [cell_of_row _ _ 0 _ _ _ h.op]; rfl
  · rw [cell_of_row _ _ 1 _ _ _ h.op]; rfl
  · rw [cell_of_row _ _ 2 _ _ _ h.op]; rfl
  · rw [cell_of_row _ _ 3 _ _ _ h.op]; rfl

/-- the worlds of a step that was told: the program's call, the document's, the room's list -/
def Chain (w w' : World) (q gq : Option Nat) (rs : List (Int × Int)) (T : World → World → Prop) : Prop :=
  ∃ w1 w2 w3, Keeps w w1 (fun _ => False) ∧ WatDone w1 w2 q gq rs ∧ Keeps w2 w3 (fun _ => False) ∧ T w3 w'


set_option maxHeartbeats 2000000 in
theorem loads_load_err (ao : Option Addr) (n cap : Nat) (place : Int) (q : Option Nat) (ao' : Option Addr) (n' cap' : Nat) (place' who : Int) (m : Nat) (o a b c : Int) (w : World) (hc : c ≠ 0)
    (h1 : ∀ w, Calls Try.prog 19 #[viewV ao n cap place q, .int .i64 a, .int .i64 b] w fun e w' => e = .returned (.tuple #[.int .u64 0, .int .i64 c]) ∧ Keeps w w' (fun _ => False))
    (h2 : ∀ w, Calls Try.prog 60 #[refV ao' n' cap' place', .int .i64 a, .int .i64 b] w fun e w' => e = .returned (.tuple #[.int .u64 0, .int .i64 c]) ∧ Keeps w w' (fun _ => False)) :
    Calls Try.prog 43 #[.pointer (some ⟨m, 0, none⟩), seenV ao n cap place q ao' n' cap' place' who, opV 3 o a b] w fun e w' => e = .returned (.bool true) ∧ Keeps w w' (fun _ => False) := by
  have H1 : Hid (∀ w, Calls Try.prog 19 #[viewV ao n cap place q, .int .i64 a, .int .i64 b] w fun e w' => e = .returned (.tuple #[.int .u64 0, .int .i64 c]) ∧ Keeps w w' (fun _ => False)) := h1
  have H2 : Hid (∀ w, Calls Try.prog 60 #[refV ao' n' cap' place', .int .i64 a, .int .i64 b] w fun e w' => e = .returned (.tuple #[.int .u64 0, .int .i64 c]) ∧ Keeps w w' (fun _ => False)) := h2
  clear h1 h2
  unfold seenV opV
  go_enter Try.func43, Try.ntmps43
  go_wp2_with fail
  obtain ⟨B, hB⟩ : ∃ B, B = Boxes.start w #[.slice ao n cap, .int .i64 place, .pointer (q.map fun b => ⟨b, 0, none⟩), .slice ao' n' cap', .int .i64 place', .int .i64 who] #[.int .i64 3, .int .i64 o, .int .i64 a, .int .i64 b] := ⟨_, rfl⟩
  clear hB
  go_at_call 19
  refine (H1.out _).mono ?_
  rintro e w1 ⟨rfl, K1⟩
  have HB : Hid (Boxes w w1 #[.slice ao n cap, .int .i64 place, .pointer (q.map fun b => ⟨b, 0, none⟩), .slice ao' n' cap', .int .i64 place', .int .i64 who] #[.int .i64 3, .int .i64 o, .int .i64 a, .int .i64 b] (fun _ => False)) := B.next K1 fun _ e => e.elim
  obtain ⟨⟨p0, p1, p2, p3, p4, p5⟩, o0, o1, o2, o3⟩ := HB.out.cells
  clear B K1
  go_wp2_with fail
  go_at_call 60
  refine (H2.out _).mono ?_
  rintro e w2 ⟨rfl, K2⟩
  have HK : Hid (Keeps w w2 (fun _ => False)) := HB.out.keep.trans K2 fun _ _ e => e
  clear K2 HB p0 p1 p2 p3 p4 p5 o0 o1 o2 o3
  go_wp2_with fail
  go_ret
  exact ⟨by go_simp, HK.out⟩

set_option maxHeartbeats 2000000 in
theorem loads_load_ok (ao : Option Addr) (n cap : Nat) (place : Int) (q : Option Nat) (ao' : Option Addr) (n' cap' : Nat) (place' who : Int) (m : Nat) (o a b X : Int) (gq : Option Nat) (rs : List (Int × Int)) (T : World → World → Prop) (w : World) (hlt : ∀ k, (q = some k ∨ gq = some k) → k < w.heap.size)
    (h1 : ∀ W, Keeps w W (fun _ => False) → Calls Try.prog 19 #[viewV ao n cap place q, .int .i64 a, .int .i64 b] W fun e w' => e = .returned (.tuple #[.int .u64 X, .int .i64 0]) ∧ WatDone W w' q gq rs)
    (h2 : ∀ W W1, Keeps w W (fun _ => False) → WatDone W W1 q gq rs → Calls Try.prog 60 #[refV ao' n' cap' place', .int .i64 a, .int .i64 b] W1 fun e w' => e = .returned (.tuple #[.int .u64 X, .int .i64 0]) ∧ Keeps W1 w' (fun _ => False))
    (h3 : ∀ W, Keeps w W (fun k => q = some k ∨ gq = some k) → Calls Try.prog 42 #[.pointer (some ⟨m, 0, none⟩), seenV ao n cap place q ao' n' cap' place' who, .int .i64 a, .int .i64 b] W fun e w' => e = .returned (.tuple #[]) ∧ T W w') :
    Calls Try.prog 43 #[.pointer (some ⟨m, 0, none⟩), seenV ao n cap place q ao' n' cap' place' who, opV 3 o a b] w fun e w' => e = .returned (.bool true) ∧ Chain w w' q gq rs T := by
  have H1 : Hid (∀ W, Keeps w W (fun _ => False) → Calls Try.prog 19 #[viewV ao n cap place q, .int .i64 a, .int .i64 b] W fun e w' => e = .returned (.tuple #[.int .u64 X, .int .i64 0]) ∧ WatDone W w' q gq rs) := h1
  have H2 : Hid (∀ W W1, Keeps w W (fun _ => False) → WatDone W W1 q gq rs → Calls Try.prog 60 #[refV ao' n' cap' place', .int .i64 a, .int .i64 b] W1 fun e w' => e = .returned (.tuple #[.int .u64 X, .int .i64 0]) ∧ Keeps W1 w' (fun _ => False)) := h2
  have H3 : Hid (∀ W, Keeps w W (fun k => q = some k ∨ gq = some k) → Calls Try.prog 42 #[.pointer (some ⟨m, 0, none⟩), seenV ao n cap place q ao' n' cap' place' who, .int .i64 a, .int .i64 b] W fun e w' => e = .returned (.tuple #[]) ∧ T W w') := h3
  have HL : Hid (∀ k, (q = some k ∨ gq = some k) → k < w.heap.size) := hlt
  clear h1 h2 h3 hlt
  unfold seenV opV
  go_enter Try.func43, Try.ntmps43
  go_wp2_with fail
  have B := Boxes.start w #[.slice ao n cap, .int .i64 place, .pointer (q.map fun b => ⟨b, 0, none⟩), .slice ao' n' cap', .int .i64 place', .int .i64 who] #[.int .i64 3, .int .i64 o, .int .i64 a, .int .i64 b]
  go_at_call 19
  refine (H1.out _ B.keep).mono ?_
  rintro e w1 ⟨rfl, D1⟩
  have HB : Hid (Boxes w w1 #[.slice ao n cap, .int .i64 place, .pointer (q.map fun b => ⟨b, 0, none⟩), .slice ao' n' cap', .int .i64 place', .int .i64 who] #[.int .i64 3, .int .i64 o, .int .i64 a, .int .i64 b] (fun k => q = some k ∨ gq = some k)) := (B.mono fun _ e => e.elim).next D1.sub fun j e => ⟨HL.out j e, e⟩
  have HD : Hid (∃ W, Keeps w W (fun _ => False) ∧ WatDone W w1 q gq rs) := ⟨_, B.keep, D1⟩
  obtain ⟨⟨p0, p1, p2, p3, p4, p5⟩, o0, o1, o2, o3⟩ := HB.out.cells
  clear B D1
  go_wp2_with fail
  go_at_call 60
  obtain ⟨W, k0, D1⟩ := HD.out
  refine (H2.out W _ k0 D1).mono ?_
  clear D1 k0 W
  rintro e w2 ⟨rfl, K2⟩
  have HK : Hid (Keeps w1 w2 (fun _ => False)) := K2
  have HB2 : Hid (Boxes w w2 #[.slice ao n cap, .int .i64 place, .pointer (q.map fun b => ⟨b, 0, none⟩), .slice ao' n' cap', .int .i64 place', .int .i64 who] #[.int .i64 3, .int .i64 o, .int .i64 a, .int .i64 b] (fun k => q = some k ∨ gq = some k)) := HB.out.next K2 fun _ e => e.elim
  clear p0 p1 p2 p3 p4 p5 o0 o1 o2 o3 HB
  obtain ⟨⟨p0, p1, p2, p3, p4, p5⟩, o0, o1, o2, o3⟩ := HB2.out.cells
  clear K2
  go_wp2_with fail
  go_at_call 42
  refine (H3.out _ HB2.out.keep).mono ?_
  rintro e w3 ⟨rfl, HT⟩
  have HT : Hid (T w2 w3) := HT
  clear HB2 p0 p1 p2 p3 p4 p5 o0 o1 o2 o3
  go_wp2_with fail
  go_ret
  obtain ⟨W, k0, D1⟩ := HD.out
  exact ⟨by go_simp, W, w1, w2, k0, D1, HK.out, HT.out⟩

set_option maxHeartbeats 2000000 in
theorem loads_signed_err (ao : Option Addr) (n cap : Nat) (place : Int) (q : Option Nat) (ao' : Option Addr) (n' cap' : Nat) (place' who : Int) (m : Nat) (o a b c : Int) (w : World) (hc : c ≠ 0)
    (h1 : ∀ w, Calls Try.prog 20 #[viewV ao n cap place q, .int .i64 a, .int .i64 b] w fun e w' => e = .returned (.tuple #[.int .i64 0, .int .i64 c]) ∧ Keeps w w' (fun _ => False))
    (h2 : ∀ w, Calls Try.prog 61 #[refV ao' n' cap' place', .int .i64 a, .int .i64 b] w fun e w' => e = .returned (.tuple #[.int .i64 0, .int .i64 c]) ∧ Keeps w w' (fun _ => False)) :
    Calls Try.prog 43 #[.pointer (some ⟨m, 0, none⟩), seenV ao n cap place q ao' n' cap' place' who, opV 4 o a b] w fun e w' => e = .returned (.bool true) ∧ Keeps w w' (fun _ => False) := by
  have H1 : Hid (∀ w, Calls Try.prog 20 #[viewV ao n cap place q, .int .i64 a, .int .i64 b] w fun e w' => e = .returned (.tuple #[.int .i64 0, .int .i64 c]) ∧ Keeps w w' (fun _ => False)) := h1
  have H2 : Hid (∀ w, Calls Try.prog 61 #[refV ao' n' cap' place', .int .i64 a, .int .i64 b] w fun e w' => e = .returned (.tuple #[.int .i64 0, .int .i64 c]) ∧ Keeps w w' (fun _ => False)) := h2
  clear h1 h2
  unfold seenV opV
  go_enter Try.func43, Try.ntmps43
  go_wp2_with fail
  obtain ⟨B, hB⟩ : ∃ B, B = Boxes.start w #[.slice ao n cap, .int .i64 place, .pointer (q.map fun b => ⟨b, 0, none⟩), .slice ao' n' cap', .int .i64 place', .int .i64 who] #[.int .i64 4, .int .i64 o, .int .i64 a, .int .i64 b] := ⟨_, rfl⟩
  clear hB
  go_at_call 20
  refine (H1.out _).mono ?_
  rintro e w1 ⟨rfl, K1⟩
  have HB : Hid (Boxes w w1 #[.slice ao n cap, .int .i64 place, .pointer (q.map fun b => ⟨b, 0, none⟩), .slice ao' n' cap', .int .i64 place', .int .i64 who] #[.int .i64 4, .int .i64 o, .int .i64 a, .int .i64 b] (fun _ => False)) := B.next K1 fun _ e => e.elim
  obtain ⟨⟨p0, p1, p2, p3, p4, p5⟩, o0, o1, o2, o3⟩ := HB.out.cells
  clear B K1
  go_wp2_with fail
  go_at_call 61
  refine (H2.out _).mono ?_
  rintro e w2 ⟨rfl, K2⟩
  have HK : Hid (Keeps w w2 (fun _ => False)) := HB.out.keep.trans K2 fun _ _ e => e
  clear K2 HB p0 p1 p2 p3 p4 p5 o0 o1 o2 o3
  go_wp2_with fail
  go_ret
  exact ⟨by go_simp, HK.out⟩

set_option maxHeartbeats 2000000 in
theorem loads_signed_ok (ao : Option Addr) (n cap : Nat) (place : Int) (q : Option Nat) (ao' : Option Addr) (n' cap' : Nat) (place' who : Int) (m : Nat) (o a b X : Int) (gq : Option Nat) (rs : List (Int × Int)) (T : World → World → Prop) (w : World) (hlt : ∀ k, (q = some k ∨ gq = some k) → k < w.heap.size)
    (h1 : ∀ W, Keeps w W (fun _ => False) → Calls Try.prog 20 #[viewV ao n cap place q, .int .i64 a, .int .i64 b] W fun e w' => e = .returned (.tuple #[.int .i64 X, .int .i64 0]) ∧ WatDone W w' q gq rs)
    (h2 : ∀ W W1, Keeps w W (fun _ => False) → WatDone W W1 q gq rs → Calls Try.prog 61 #[refV ao' n' cap' place', .int .i64 a, .int .i64 b] W1 fun e w' => e = .returned (.tuple #[.int .i64 X, .int .i64 0]) ∧ Keeps W1 w' (fun _ => False))
    (h3 : ∀ W, Keeps w W (fun k => q = some k ∨ gq = some k) → Calls Try.prog 42 #[.pointer (some ⟨m, 0, none⟩), seenV ao n cap place q ao' n' cap' place' who, .int .i64 a, .int .i64 b] W fun e w' => e = .returned (.tuple #[]) ∧ T W w') :
    Calls Try.prog 43 #[.pointer (some ⟨m, 0, none⟩), seenV ao n cap place q ao' n' cap' place' who, opV 4 o a b] w fun e w' => e = .returned (.bool true) ∧ Chain w w' q gq rs T := by
  have H1 : Hid (∀ W, Keeps w W (fun _ => False) → Calls Try.prog 20 #[viewV ao n cap place q, .int .i64 a, .int .i64 b] W fun e w' => e = .returned (.tuple #[.int .i64 X, .int .i64 0]) ∧ WatDone W w' q gq rs) := h1
  have H2 : Hid (∀ W W1, Keeps w W (fun _ => False) → WatDone W W1 q gq rs → Calls Try.prog 61 #[refV ao' n' cap' place', .int .i64 a, .int .i64 b] W1 fun e w' => e = .returned (.tuple #[.int .i64 X, .int .i64 0]) ∧ Keeps W1 w' (fun _ => False)) := h2
  have H3 : Hid (∀ W, Keeps w W (fun k => q = some k ∨ gq = some k) → Calls Try.prog 42 #[.pointer (some ⟨m, 0, none⟩), seenV ao n cap place q ao' n' cap' place' who, .int .i64 a, .int .i64 b] W fun e w' => e = .returned (.tuple #[]) ∧ T W w') := h3
  have HL : Hid (∀ k, (q = some k ∨ gq = some k) → k < w.heap.size) := hlt
  clear h1 h2 h3 hlt
  unfold seenV opV
  go_enter Try.func43, Try.ntmps43
  go_wp2_with fail
  have B := Boxes.start w #[.slice ao n cap, .int .i64 place, .pointer (q.map fun b => ⟨b, 0, none⟩), .slice ao' n' cap', .int .i64 place', .int .i64 who] #[.int .i64 4, .int .i64 o, .int .i64 a, .int .i64 b]
  go_at_call 20
  refine (H1.out _ B.keep).mono ?_
  rintro e w1 ⟨rfl, D1⟩
  have HB : Hid (Boxes w w1 #[.slice ao n cap, .int .i64 place, .pointer (q.map fun b => ⟨b, 0, none⟩), .slice ao' n' cap', .int .i64 place', .int .i64 who] #[.int .i64 4, .int .i64 o, .int .i64 a, .int .i64 b] (fun k => q = some k ∨ gq = some k)) := (B.mono fun _ e => e.elim).next D1.sub fun j e => ⟨HL.out j e, e⟩
  have HD : Hid (∃ W, Keeps w W (fun _ => False) ∧ WatDone W w1 q gq rs) := ⟨_, B.keep, D1⟩
  obtain ⟨⟨p0, p1, p2, p3, p4, p5⟩, o0, o1, o2, o3⟩ := HB.out.cells
  clear B D1
  go_wp2_with fail
  go_at_call 61
  obtain ⟨W, k0, D1⟩ := HD.out
  refine (H2.out W _ k0 D1).mono ?_
  clear D1 k0 W
  rintro e w2 ⟨rfl, K2⟩
  have HK : Hid (Keeps w1 w2 (fun _ => False)) := K2
  have HB2 : Hid (Boxes w w2 #[.slice ao n cap, .int .i64 place, .pointer (q.map fun b => ⟨b, 0, none⟩), .slice ao' n' cap', .int .i64 place', .int .i64 who] #[.int .i64 4, .int .i64 o, .int .i64 a, .int .i64 b] (fun k => q = some k ∨ gq = some k)) := HB.out.next K2 fun _ e => e.elim
  clear p0 p1 p2 p3 p4 p5 o0 o1 o2 o3 HB
  obtain ⟨⟨p0, p1, p2, p3, p4, p5⟩, o0, o1, o2, o3⟩ := HB2.out.cells
  clear K2
  go_wp2_with fail
  go_at_call 42
  refine (H3.out _ HB2.out.keep).mono ?_
  rintro e w3 ⟨rfl, HT⟩
  have HT : Hid (T w2 w3) := HT
  clear HB2 p0 p1 p2 p3 p4 p5 o0 o1 o2 o3
  go_wp2_with fail
  go_ret
  obtain ⟨W, k0, D1⟩ := HD.out
  exact ⟨by go_simp, W, w1, w2, k0, D1, HK.out, HT.out⟩
end Go.Proofs.Ytomlndoffoeaiaa.Kit
namespace Go.Proofs.Ytomlndoffoeaiaa.Kit
open Go.RowKit Go.Deep
set_option linter.unusedVariables false

/-- a read was told to a watch, and the room has written it down -/
def TellDone (w w' : World) (m off : Nat) (cs : Array Value) (q gq : Option Nat) (v : Value) (rs : List (Int × Int)) : Prop :=
  ∃ gq' v', Wat w' q gq' rs ∧ w'.heap[m]? = some (.cells (cs.setIfInBounds off v') 87 (0, 0)) ∧ w'.ownsRow 0 50 2 v' rs.length (readCells rs) ∧
    Keeps w w' (fun k => k = m ∨ q = some k ∨ gq = some k ∨ v.ownBlock = some k) ∧ (gq' = gq ∨ ∀ g, gq' = some g → w.heap.size ≤ g) ∧ (v'.ownBlock = v.ownBlock ∨ ∀ g, v'.ownBlock = some g → w.heap.size ≤ g) ∧
    ∀ g, gq' = some g → v'.ownBlock ≠ some g

theorem Wat.kind {w : World} {q gq : Option Nat} {rs : List (Int × Int)} (h : Wat w q gq rs) : (∀ b, q = some b → ∃ v, w.heap[b]? = some (.cells #[v] 109 (0, 0))) ∧ ∀ g, gq = some g → ∃ c, w.heap[g]? = some (.cells c 50 (0, 0)) := by
  cases q with
  | none => exact ⟨(fun _ h => by cases h), fun g hg => by rw [h.1] at hg; cases hg⟩
  | some b =>
    obtain ⟨v, hv, hown, hb⟩ := h
    refine ⟨fun b' e => by cases e; exact ⟨v, hv⟩, fun g hg => ?_⟩
    subst hb
    rcases hown.2 with hn | ⟨g', cap, cur, rfl, hb', hgg, rest⟩
    · simp_all [Value.ownBlock]
    · simp only [Value.ownBlock] at hg
      cases hg
      exact ⟨_, hgg⟩

theorem Chain.told {w w' : World} {m off : Nat} {cs : Array Value} {q gq : Option Nat} {v : Value} {n0 : Nat} {xs0 : List Value} {rs0 rs : List (Int × Int)} (hm : w.heap[m]? = some (.cells cs 87 (0, 0))) (hq : Wat w q gq rs0) (hv : w.ownsRow 0 50 2 v n0 xs0)
    (hap : ∀ g, gq = some g → v.ownBlock ≠ some g) (h : Chain w w' q gq rs (fun a b => ToldDone a b m off cs v rs)) : TellDone w w' m off cs q gq v rs := by
  obtain ⟨w1, w2, w3, k1, ⟨gq', hq2, k2, f2⟩, k3, v', hm4, hv4, k4, f4⟩ := h
  have hlt := hq.lt
  have hml : m < w.heap.size := (Array.getElem?_eq_some_iff.1 hm).1
  have hqm : ∀ b, q = some b → b ≠ m := by
    intro b e e2
    obtain ⟨u, hu⟩ := hq.kind.1 b e
    rw [e2, hm] at hu; simp at hu
  have hgm : ∀ g, gq = some g → g ≠ m := by
    intro g e e2
    obtain ⟨u, hu⟩ := hq.kind.2 g e
    rw [e2, hm] at hu; simp at hu
  have hqv : ∀ b, q = some b → v.ownBlock ≠ some b := by
    intro b e
    obtain ⟨u, hu⟩ := hq.kind.1 b e
    exact own2_ne (by decide) hu hv
  have hvl : ∀ g, v.ownBlock = some g → g < w.heap.size := fun g e => (hv.lt g e).2
  have s1 := k1.size
  have s2 := k2.size
  have s3 := k3.size
  have hq3 : Wat w3 q gq' rs := hq2.kept k3 (fun _ _ => id) fun _ _ => id
  have hg'm : ∀ g, gq' = some g → g ≠ m ∧ v.ownBlock ≠ some g := by
    intro g e
    rcases f2 with f | f
    · exact ⟨hgm g (f ▸ e), hap g (f ▸ e)⟩
    · have := f g e
      exact ⟨by omega, fun e3 => by have := hvl g e3; omega⟩
  have hq4 : Wat w' q gq' rs := by
    refine hq3.kept k4 (fun b e e2 => ?_) fun g e e2 => ?_
    · exact e2.elim (hqm b e) (hqv b e)
    · exact e2.elim (hg'm g e).1 (hg'm g e).2
  refine ⟨gq', v', hq4, hm4, hv4, ?_, ?_, ?_, ?_⟩
  · refine ((k1.mono fun _ _ e => e.elim).trans k2 fun j _ e => ?_).trans k3 (fun _ _ e => e.elim) |>.trans k4 fun j _ e => ?_
    · rcases e with e | e
      · exact .inr (.inl e)
      · exact .inr (.inr (.inl e))
    · rcases e with e | e
      · exact .inl e
      · exact .inr (.inr (.inr e))
  · rcases f2 with f | f
    · exact .inl f
    · exact .inr fun g e => by have := f g e; omega
  · rcases f4 with f | f
    · exact .inl f
    · exact .inr fun g e => by have := f g e; omega
  · intro g e e2
    rcases f4 with f | f
    · exact (hg'm g e).2 (f ▸ e2)
    · have := f g e2
      have := hq3.lt.2 g e
      omega
end Go.Proofs.Ytomlndoffoeaiaa.Kit
