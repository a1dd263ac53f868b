import Derived.Test.YthhpamhfnpacpaaGreatDoorFF
set_option linter.unusedVariables false
set_option linter.unusedSimpArgs false
set_option maxRecDepth 100000
set_option maxHeartbeats 8000000
namespace Go.Proofs.YthhpamhfnpacpaaGreatDoor.Kit
open Go.RowKit Go.Shelf Go.Deep
attribute [local go_sem] run_store_func
theorem hidM {p : Prop} (h : p) : Hid p := h
def takV (t : Nat → Bool) : Value := .agg #[.bool (t 0), .bool (t 1), .bool (t 2), .bool (t 3), .bool (t 4), .bool (t 5), .bool (t 6), .bool (t 7), .bool (t 8), .bool (t 9), .bool (t 10), .bool (t 11), .bool (t 12), .bool (t 13), .bool (t 14), .bool (t 15), .bool (t 16), .bool (t 17), .bool (t 18), .bool (t 19), .bool (t 20), .bool (t 21), .bool (t 22), .bool (t 23), .bool (t 24), .bool (t 25), .bool (t 26), .bool (t 27), .bool (t 28), .bool (t 29), .bool (t 30), .bool (t 31)]
def wr (m : Nat) (ahead : Int) (nameR : Bool) (idx i : Int) (tabR nulR inD : Bool) (f2 : Int) (kid : Bool) (tk : Bool) : Int :=
 if 64 < m then 33 else if 256 ≤ ahead then 34 else if nameR = false then 30 else if idx ≠ i then 31 else if tabR = false then 32 else if nulR = false then 35
 else if inD = true ∧ (f2 = 19 ∨ f2 = 20) then 36 else if f2 = 19 ∧ (kid = true ∨ tk = true) then 36 else 0
structure WB (W : World) (B F : Nat) (ao : Option Addr) (L ca wb m wc : Nat) (inD : Bool) (t : Nat → Bool) (f0 : ByteArray) (f1 : Bool) (f2 f3 f4 f5 : Int) (ao' : Option Addr) (f6 ca' : Nat) : Prop where
 hb : W.heap[B]? = some (.cells #[.slice ao L ca, .slice (some ⟨wb, 0, none⟩) m wc, .bool inD] 116)
 ht : W.heap[B + 1]? = some (.cells #[.bool (t 0), .bool (t 1), .bool (t 2), .bool (t 3), .bool (t 4), .bool (t 5), .bool (t 6), .bool (t 7), .bool (t 8), .bool (t 9), .bool (t 10), .bool (t 11), .bool (t 12), .bool (t 13), .bool (t 14), .bool (t 15), .bool (t 16), .bool (t 17), .bool (t 18), .bool (t 19), .bool (t 20), .bool (t 21), .bool (t 22), .bool (t 23), .bool (t 24), .bool (t 25), .bool (t 26), .bool (t 27), .bool (t 28), .bool (t 29), .bool (t 30), .bool (t 31)] 111)
 hf : W.heap[F]? = some (.cells #[.string f0, .bool f1, .int .i64 f2, .int .i64 f3, .int .i64 f4, .int .i64 f5, .slice ao' f6 ca'] 58)
theorem lt_of_heap {W : World} {B : Nat} {o : Obj} (h : W.heap[B]? = some o) : B < W.heap.size := (Array.getElem?_eq_some_iff.1 h).1
theorem WB.gr {W W' : World} {B F : Nat} {ao : Option Addr} {L ca wb m wc : Nat} {inD : Bool} {t : Nat → Bool} {f0 : ByteArray} {f1 : Bool} {f2 f3 f4 f5 : Int} {ao' : Option Addr} {f6 ca' : Nat} (h : WB W B F ao L ca wb m wc inD t f0 f1 f2 f3 f4 f5 ao' f6 ca') (g : Gr W W') : WB W' B F ao L ca wb m wc inD t f0 f1 f2 f3 f4 f5 ao' f6 ca' :=
 ⟨(g.block _ (lt_of_heap h.hb) (fun h => h)).trans h.hb, (g.block _ (lt_of_heap h.ht) (fun h => h)).trans h.ht, (g.block _ (lt_of_heap h.hf) (fun h => h)).trans h.hf⟩
theorem WB.cells {W : World} {B F : Nat} {ao : Option Addr} {L ca wb m wc : Nat} {inD : Bool} {t : Nat → Bool} {f0 : ByteArray} {f1 : Bool} {f2 f3 f4 f5 : Int} {ao' : Option Addr} {f6 ca' : Nat} (h : WB W B F ao L ca wb m wc inD t f0 f1 f2 f3 f4 f5 ao' f6 ca') :
  W.cell? ⟨B, 0, none⟩ = some (.slice ao L ca) ∧ W.cell? ⟨B, 1, none⟩ = some (.slice (some ⟨wb, 0, none⟩) m wc) ∧ W.cell? ⟨B, 2, none⟩ = some (.bool inD) ∧ W.cell? ⟨F, 0, none⟩ = some (.string f0) ∧ W.cell? ⟨F, 1, none⟩ = some (.bool f1) ∧ W.cell? ⟨F, 2, none⟩ = some (.int .i64 f2) ∧ W.cell? ⟨F, 3, none⟩ = some (.int .i64 f3) ∧ W.cell? ⟨F, 4, none⟩ = some (.int .i64 f4) ∧ W.cell? ⟨F, 5, none⟩ = some (.int .i64 f5) ∧ W.cell? ⟨F, 6, none⟩ = some (.slice ao' f6 ca') := by
 obtain ⟨hb, ht, hf⟩ := h
 refine ⟨?_, ?_, ?_, ?_, ?_, ?_, ?_, ?_, ?_, ?_⟩ <;> simp [World.cell?, hb, hf]
theorem WB.tk {W : World} {B F : Nat} {ao : Option Addr} {L ca wb m wc : Nat} {inD : Bool} {t : Nat → Bool} {f0 : ByteArray} {f1 : Bool} {f2 f3 f4 f5 : Int} {ao' : Option Addr} {f6 ca' : Nat} (h : WB W B F ao L ca wb m wc inD t f0 f1 f2 f3 f4 f5 ao' f6 ca') (k : Nat) (hk : k < 32) : W.cell? ⟨B + 1, k, none⟩ = some (.bool (t k)) := by
 have ht := h.ht
 simp only [World.cell?, ht]
 have e : (#[.bool (t 0), .bool (t 1), .bool (t 2), .bool (t 3), .bool (t 4), .bool (t 5), .bool (t 6), .bool (t 7), .bool (t 8), .bool (t 9), .bool (t 10), .bool (t 11), .bool (t 12), .bool (t 13), .bool (t 14), .bool (t 15), .bool (t 16), .bool (t 17), .bool (t 18), .bool (t 19), .bool (t 20), .bool (t 21), .bool (t 22), .bool (t 23), .bool (t 24), .bool (t 25), .bool (t 26), .bool (t 27), .bool (t 28), .bool (t 29), .bool (t 30), .bool (t 31)] : Array Value) = ((List.range 32).map fun j => Value.bool (t j)).toArray := rfl
 rw [e]
 simp [hk]
theorem ws_of {w : World} {B F : Nat} {ao : Option Addr} {L ca wb m wc : Nat} {inD : Bool} {t : Nat → Bool} {f0 : ByteArray} {f1 : Bool} {f2 f3 f4 f5 : Int} {ao' : Option Addr} {f6 ca' : Nat} {W : World} (g : Gr w W) (h : WB W B F ao L ca wb m wc inD t f0 f1 f2 f3 f4 f5 ao' f6 ca') : Hid (Gr w W ∧ WB W B F ao L ca wb m wc inD t f0 f1 f2 f3 f4 f5 ao' f6 ca') ∧ W.cell? ⟨B, 0, none⟩ = some (.slice ao L ca) ∧ W.cell? ⟨B, 1, none⟩ = some (.slice (some ⟨wb, 0, none⟩) m wc) ∧ W.cell? ⟨B, 2, none⟩ = some (.bool inD) ∧ W.cell? ⟨F, 0, none⟩ = some (.string f0) :=
 ⟨⟨g, h⟩, h.cells.1, h.cells.2.1, h.cells.2.2.1, h.cells.2.2.2.1⟩
theorem ws_kept {w : World} {B F : Nat} {ao : Option Addr} {L ca wb m wc : Nat} {inD : Bool} {t : Nat → Bool} {f0 : ByteArray} {f1 : Bool} {f2 f3 f4 f5 : Int} {ao' : Option Addr} {f6 ca' : Nat} {W W' : World} (h : Hid (Gr w W ∧ WB W B F ao L ca wb m wc inD t f0 f1 f2 f3 f4 f5 ao' f6 ca') ∧ W.cell? ⟨B, 0, none⟩ = some (.slice ao L ca) ∧ W.cell? ⟨B, 1, none⟩ = some (.slice (some ⟨wb, 0, none⟩) m wc) ∧ W.cell? ⟨B, 2, none⟩ = some (.bool inD) ∧ W.cell? ⟨F, 0, none⟩ = some (.string f0)) (k : Hid (Gr W W')) : Hid (Gr w W' ∧ WB W' B F ao L ca wb m wc inD t f0 f1 f2 f3 f4 f5 ao' f6 ca') ∧ W'.cell? ⟨B, 0, none⟩ = some (.slice ao L ca) ∧ W'.cell? ⟨B, 1, none⟩ = some (.slice (some ⟨wb, 0, none⟩) m wc) ∧ W'.cell? ⟨B, 2, none⟩ = some (.bool inD) ∧ W'.cell? ⟨F, 0, none⟩ = some (.string f0) :=
 ws_of (h.1.out.1.tr k.out) (h.1.out.2.gr k.out)
theorem gr_drew {w : World} : Gr w w.drew := (Keeps.refl w _).drew
theorem ws_gr {w : World} {B F : Nat} {ao : Option Addr} {L ca wb m wc : Nat} {inD : Bool} {t : Nat → Bool} {f0 : ByteArray} {f1 : Bool} {f2 f3 f4 f5 : Int} {ao' : Option Addr} {f6 ca' : Nat} {W : World} (h : Hid (Gr w W ∧ WB W B F ao L ca wb m wc inD t f0 f1 f2 f3 f4 f5 ao' f6 ca') ∧ W.cell? ⟨B, 0, none⟩ = some (.slice ao L ca) ∧ W.cell? ⟨B, 1, none⟩ = some (.slice (some ⟨wb, 0, none⟩) m wc) ∧ W.cell? ⟨B, 2, none⟩ = some (.bool inD) ∧ W.cell? ⟨F, 0, none⟩ = some (.string f0)) : Gr w W := h.1.out.1
theorem wrong_walk (ao : Option Addr) (L ca wb m wc : Nat) (inD : Bool) (i : Nat) (t : Nat → Bool) (ahead : Int) (f0 : ByteArray) (f1 : Bool) (f2 f3 f4 f5 : Int) (ao' : Option Addr) (f6 ca' : Nat) (nameR : Bool) (idx : Int) (tabR nulR kid : Bool) (w : World) (hm : m ≤ 1000000000000)
  (hF : ∀ W, Gr w W → Calls Tryz.prog 54 #[.agg #[.slice ao L ca, .slice (some ⟨wb, 0, none⟩) m wc, .bool inD]] W fun e w' => e = .returned (.agg #[.string f0, .bool f1, .int .i64 f2, .int .i64 f3, .int .i64 f4, .int .i64 f5, .slice ao' f6 ca']) ∧ Gr W w')
  (hName : ∀ W, Calls Tryz.prog 76 #[.string f0] W fun e w' => e = .returned (.bool nameR) ∧ w' = W)
  (hIdx : ∀ W, Gr w W → Calls Tryz.prog 77 #[.slice ao L ca, .string f0] W fun e w' => e = .returned (.int .i64 idx) ∧ Gr W w')
  (hNum : ∀ W, Gr w W → Calls Tryz.prog 78 #[.agg #[.slice ao L ca, .slice (some ⟨wb, 0, none⟩) m wc, .bool inD]] W fun e w' => e = .returned (.int .i64 (i : Int)) ∧ Gr W w')
  (hTab : ∀ W, Gr w W → Calls Tryz.prog 79 #[.agg #[.int .i64 f2, .int .i64 f3, .int .i64 f4, .int .i64 f5, .slice ao' f6 ca']] W fun e w' => e = .returned (.bool tabR) ∧ Gr W w')
  (hNul : tabR = true → ∀ W, Gr w W → Calls Tryz.prog 80 #[.agg #[.string f0, .bool f1, .int .i64 f2, .int .i64 f3, .int .i64 f4, .int .i64 f5, .slice ao' f6 ca']] W fun e w' => e = .returned (.bool nulR) ∧ Gr W w')
  (hKid : tabR = true → f2 = 19 → ∃ b o k, ao' = some ⟨b, o, none⟩ ∧ 0 < f6 ∧ w.cell? ⟨b, o + 1, none⟩ = some (.bool kid) ∧ k < 32 ∧ f4 = (k : Nat)) :
  Calls Tryz.prog 52 #[.agg #[.slice ao L ca, .slice (some ⟨wb, 0, none⟩) m wc, .bool inD], .int .i64 ahead, takV t] w fun e w' => e = .returned (.int .i64 (wr m ahead nameR idx i tabR nulR inD f2 kid (t f4.toNat))) ∧ Gr w w' := by
 have HF : Hid _ := hF
 have HNa : Hid _ := hName
 have HI : Hid _ := hIdx
 have HNu : Hid _ := hNum
 have HT : Hid _ := hTab
 have HU : Hid _ := hNul
 have HK : Hid _ := hKid
 clear hF hName hIdx hNum hTab hNul hKid
 unfold takV
 obtain ⟨W0, hW0⟩ : ∃ W0, W0 = (w.alloc (.cells #[.slice ao L ca, .slice (some ⟨wb, 0, none⟩) m wc, .bool inD] 116)).alloc (.cells #[.bool (t 0), .bool (t 1), .bool (t 2), .bool (t 3), .bool (t 4), .bool (t 5), .bool (t 6), .bool (t 7), .bool (t 8), .bool (t 9), .bool (t 10), .bool (t 11), .bool (t 12), .bool (t 13), .bool (t 14), .bool (t 15), .bool (t 16), .bool (t 17), .bool (t 18), .bool (t 19), .bool (t 20), .bool (t 21), .bool (t 22), .bool (t 23), .bool (t 24), .bool (t 25), .bool (t 26), .bool (t 27), .bool (t 28), .bool (t 29), .bool (t 30), .bool (t 31)] 111) := ⟨_, rfl⟩
 have HG0 : Hid (Gr w W0) := by rw [hW0]; exact ((Keeps.refl w _).alloc _).alloc _
 have x1 : W0.heap[w.heap.size]? = some (.cells #[.slice ao L ca, .slice (some ⟨wb, 0, none⟩) m wc, .bool inD] 116) := by
  rw [hW0]; exact (Below.heap_alloc _ _ _ (by simp)).trans (World.alloc_heap_new w _)
 have x2 : W0.heap[w.heap.size + 1]? = some (.cells #[.bool (t 0), .bool (t 1), .bool (t 2), .bool (t 3), .bool (t 4), .bool (t 5), .bool (t 6), .bool (t 7), .bool (t 8), .bool (t 9), .bool (t 10), .bool (t 11), .bool (t 12), .bool (t 13), .bool (t 14), .bool (t 15), .bool (t 16), .bool (t 17), .bool (t 18), .bool (t 19), .bool (t 20), .bool (t 21), .bool (t 22), .bool (t 23), .bool (t 24), .bool (t 25), .bool (t 26), .bool (t 27), .bool (t 28), .bool (t 29), .bool (t 30), .bool (t 31)] 111) := by
  rw [hW0]
  have := World.alloc_heap_new (w.alloc (.cells #[.slice ao L ca, .slice (some ⟨wb, 0, none⟩) m wc, .bool inD] 116)) (.cells #[.bool (t 0), .bool (t 1), .bool (t 2), .bool (t 3), .bool (t 4), .bool (t 5), .bool (t 6), .bool (t 7), .bool (t 8), .bool (t 9), .bool (t 10), .bool (t 11), .bool (t 12), .bool (t 13), .bool (t 14), .bool (t 15), .bool (t 16), .bool (t 17), .bool (t 18), .bool (t 19), .bool (t 20), .bool (t 21), .bool (t 22), .bool (t 23), .bool (t 24), .bool (t 25), .bool (t 26), .bool (t 27), .bool (t 28), .bool (t 29), .bool (t 30), .bool (t 31)] 111)
  rw [World.size_alloc] at this
  exact this
 go_enter Tryz.func52, Tryz.ntmps52
 have p0 : W0.cell? ⟨w.heap.size, 0, none⟩ = some (.slice ao L ca) := by simp [World.cell?, x1]
 have p1 : W0.cell? ⟨w.heap.size, 1, none⟩ = some (.slice (some ⟨wb, 0, none⟩) m wc) := by simp [World.cell?, x1]
 have p2 : W0.cell? ⟨w.heap.size, 2, none⟩ = some (.bool inD) := by simp [World.cell?, x1]
 go_wp2_with fail
 rw [← hW0]
 refine Calls.mono (HF.out W0 HG0.out) ?_
 rintro e W1 ⟨rfl, hg1⟩
 obtain ⟨W2, hW2⟩ := ex (W1.alloc (.cells #[.string f0, .bool f1, .int .i64 f2, .int .i64 f3, .int .i64 f4, .int .i64 f5, .slice ao' f6 ca'] 58))
 have HG2 : Hid (Gr w W2) := by rw [← hW2]; exact (HG0.out.tr hg1).alloc _
 have HW2 : Hid (WB W2 w.heap.size W1.heap.size ao L ca wb m wc inD t f0 f1 f2 f3 f4 f5 ao' f6 ca') := by
  have g : Gr W0 W2 := by rw [← hW2]; exact hg1.alloc _
  exact ⟨(g.block _ (lt_of_heap x1) (fun h => h)).trans x1, (g.block _ (lt_of_heap x2) (fun h => h)).trans x2, by rw [← hW2]; exact World.alloc_heap_new W1 _⟩
 clear x1 x2 p0 p1 p2 hg1 hW0 HG0 HF
 obtain ⟨p0, p1, p2, q0, q1, q2, q3, q4, q5, q6⟩ := HW2.out.cells
 by_cases c1 : 64 < m
 ·have c1' : (64 : Int) < (m : Int) := by omega
  go_wp2_with fail
  go_ret
  exact ⟨congrArg (fun z => Ending.returned (.int .i64 z)) (by simp [wr, c1]), HG2.out⟩
 have c1' : ¬ (64 : Int) < (m : Int) := by omega
 by_cases c2 : 256 ≤ ahead
 ·go_wp2_with fail
  go_ret
  exact ⟨congrArg (fun z => Ending.returned (.int .i64 z)) (by simp [wr, c1, c2]), HG2.out⟩
 go_wp2_with fail
 refine Calls.mono (HNa.out _) ?_
 rintro e w' ⟨rfl, rfl⟩
 clear hW2
 cases nameR with
 | false =>
  go_wp2_with fail
  go_ret
  exact ⟨congrArg (fun z => Ending.returned (.int .i64 z)) (by simp [wr, c1, c2]), HG2.out⟩
 | true =>
  generalize W1.heap.size = F at *
  obtain ⟨B, hB⟩ : ∃ B, B = w.heap.size := ⟨_, rfl⟩
  rw [← hB] at p0 p1 p2 HW2 ⊢
  clear hB
  go_wp2_with fail
  have HIN : Hid (Hid (Gr w w'.drew ∧ WB w'.drew B F ao L ca wb m wc inD t f0 f1 f2 f3 f4 f5 ao' f6 ca') ∧ w'.drew.cell? ⟨B, 0, none⟩ = some (.slice ao L ca) ∧ w'.drew.cell? ⟨B, 1, none⟩ = some (.slice (some ⟨wb, 0, none⟩) m wc) ∧ w'.drew.cell? ⟨B, 2, none⟩ = some (.bool inD) ∧ w'.drew.cell? ⟨F, 0, none⟩ = some (.string f0)) := ws_of (HG2.out.drew) (HW2.out.gr gr_drew)
  clear p0 p1 p2 q0 q1 q2 q3 q4 q5 q6
  go_region_held3 (fun w' => Hid (Gr w w' ∧ WB w' B F ao L ca wb m wc inD t f0 f1 f2 f3 f4 f5 ao' f6 ca') ∧ w'.cell? ⟨B, 0, none⟩ = some (.slice ao L ca) ∧ w'.cell? ⟨B, 1, none⟩ = some (.slice (some ⟨wb, 0, none⟩) m wc) ∧ w'.cell? ⟨B, 2, none⟩ = some (.bool inD) ∧ w'.cell? ⟨F, 0, none⟩ = some (.string f0)) (first | with_reducible exact HIN.out | with_reducible exact ws_kept (by assumption) hk2 | with_reducible exact ws_kept (by assumption) hk1) (first | (go_at_call 77; refine Calls.mono (HI.out _ (ws_gr (by assumption))) ?_; rintro e v1 ⟨rfl, hk1⟩; replace hk1 := hidM hk1) | (go_at_call 78; refine Calls.mono (HNu.out _ (ws_gr (by assumption))) ?_; rintro e v2 ⟨rfl, hk2⟩; replace hk2 := hidM hk2))
  rename_i hHeld
  have HG3 := hidM hHeld.1.out.1
  have HW3 := hidM hHeld.1.out.2
  clear hHeld hk1 hk2 HIN HG2 HW2 HI HNu
  obtain ⟨p0, p1, p2, q0, q1, q2, q3, q4, q5, q6⟩ := HW3.out.cells
  by_cases c4 : idx = (i : Int)
  ·have c4' : (idx != (i : Int)) = false := by simp [c4]
   go_wp2_with fail
   refine Calls.mono (HT.out _ HG3.out) ?_
   rintro e v3 ⟨rfl, hg4⟩
   have HG4 := hidM (HG3.out.tr hg4)
   have HW4 := hidM (HW3.out.gr hg4)
   clear p0 p1 p2 q0 q1 q2 q3 q4 q5 q6 hg4 HT
   clear HG3 HW3
   obtain ⟨p0, p1, p2, q0, q1, q2, q3, q4, q5, q6⟩ := HW4.out.cells
   cases tabR with
   | false =>
    go_wp2_with fail
    go_ret
    exact ⟨congrArg (fun z => Ending.returned (.int .i64 z)) (by simp [wr, c1, c2, c4]), HG4.out⟩
   | true =>
    go_wp2_with fail
    refine Calls.mono (HU.out (by trivial) _ HG4.out) ?_
    rintro e v4 ⟨rfl, hg5⟩
    have HG5 := hidM (HG4.out.tr hg5)
    have HW5 := hidM (HW4.out.gr hg5)
    clear p0 p1 p2 q0 q1 q2 q3 q4 q5 q6 hg5 HU
    clear HG4 HW4
    obtain ⟨p0, p1, p2, q0, q1, q2, q3, q4, q5, q6⟩ := HW5.out.cells
    cases nulR with
    | false =>
     go_wp2_with fail
     go_ret
     exact ⟨congrArg (fun z => Ending.returned (.int .i64 z)) (by simp [wr, c1, c2, c4]), HG5.out⟩
    | true =>
     by_cases c5 : inD = true ∧ (f2 = 19 ∨ f2 = 20)
     ·have HE : Hid (wr m ahead true idx i true true inD f2 kid (t f4.toNat) = 36) := by show _ = _; simp [wr, c1, c2, c4, c5.1, c5.2]
      obtain ⟨c6, c7⟩ := c5
      subst c6
      rcases c7 with c7 | c7
      ·go_wp2_with fail
       go_ret
       exact ⟨congrArg (fun z => Ending.returned (.int .i64 z)) HE.out.symm, HG5.out⟩
      have c8 : (f2 == 19) = false := by simp [c7]
      go_wp2_with fail
      go_ret
      exact ⟨congrArg (fun z => Ending.returned (.int .i64 z)) HE.out.symm, HG5.out⟩
     by_cases c6 : f2 = 19
     ·have hi : inD = false := by
       cases inD with
       | false => rfl
       | true => exact absurd ⟨rfl, .inl c6⟩ c5
      obtain ⟨b, o, k, rfl, hf6, hkid, hk32, hfk⟩ := HK.out (by trivial) c6
      have z1 : v4.cell? ⟨b, o + 1, none⟩ = some (.bool kid) := HG5.out.cell' hkid (fun h => h)
      have z2 : v4.cell? ⟨B + 1, k, none⟩ = some (.bool (t k)) := HW5.out.tk k hk32
      have hf6I : (0 : Int) < (f6 : Int) := by omega
      have HE : Hid (wr m ahead true idx i true true inD f2 kid (t f4.toNat) = if kid = true ∨ t k = true then 36 else 0) := by show _ = _; simp [wr, c1, Int.not_le.2 c2, c4, c6, hi, hfk]
      subst hi hfk
      subst c6
      generalize t k = tk at z2 HE
      clear hkid HK HW5
      cases kid with
      | true =>
       go_wp2_with fail
       go_ret
       exact ⟨congrArg (fun z => Ending.returned (.int .i64 z)) (by rw [HE.out]; simp), HG5.out⟩
      | false =>
       cases tk with
       | true =>
        go_wp2_with fail
        go_ret
        exact ⟨congrArg (fun z => Ending.returned (.int .i64 z)) (by rw [HE.out]; simp), HG5.out⟩
       | false =>
        go_wp2_with fail
        go_ret
        exact ⟨congrArg (fun z => Ending.returned (.int .i64 z)) (by rw [HE.out]; simp), HG5.out⟩
     have c6' := beqF c6
     have HE : Hid (wr m ahead true idx i true true inD f2 kid (t f4.toNat) = 0) := by show _ = _; unfold wr; rw [if_neg c1, if_neg (Int.not_le.2 c2), if_neg (by simp), if_neg (by simp [c4]), if_neg (by simp), if_neg (by simp), if_neg c5, if_neg (by simp [c6])]
     clear HK
     cases inD with
     | false =>
      go_wp2_with fail
      go_ret
      exact ⟨congrArg (fun z => Ending.returned (.int .i64 z)) HE.out.symm, HG5.out⟩
     | true =>
      have c7' : (f2 == 20) = false := beqF fun e => c5 ⟨rfl, .inr e⟩
      go_wp2_with fail
      go_ret
      exact ⟨congrArg (fun z => Ending.returned (.int .i64 z)) HE.out.symm, HG5.out⟩
  have c4' : (idx != (i : Int)) = true := by simp [c4]
  go_wp2_with fail
  go_ret
  exact ⟨congrArg (fun z => Ending.returned (.int .i64 z)) (by simp [wr, c1, c2, c4]), HG3.out⟩
def LS.idx (s : LS) : Nat := s.path.getLastD 0
def LS.fld (s : LS) : FT := (s.list[s.idx]?).getD default
def kid0 (f : FT) : Bool := (f.kids[0]?.map FT.nul).getD false
def wrongE (s : LS) (ahead : Nat) (t : Nat → Bool) : Int :=
 wr s.path.length ahead (nameB s.fld.name) (idxOf s.list s.fld.name) s.idx (tableB s.fld) (nullB s.fld) s.inD s.fld.kind (kid0 s.fld) (t s.fld.id.toNat)
theorem tab_kids {f : FT} (h : tableB f = true) : (f.kind = 19 → f.kids ≠ [] ∧ 0 ≤ f.id ∧ f.id < 32) ∧ (f.kind = 20 → f.kids ≠ []) := by
 unfold tableB dictB at h
 refine ⟨fun e => ?_, fun e => ?_⟩
 ·rw [e] at h
  simp [leastK] at h
  refine ⟨fun e2 => ?_, h.2.2.1.1, h.2.2.1.2⟩
  rw [e2] at h
  simp at h
 rw [e] at h
 simp [leastK] at h
 intro e2
 rw [e2] at h
 simp at h
theorem wrong_any (x : Spot) (S O : Nat → Prop) (t : Nat → Bool) (ahead : Nat) (w : World) (hx : AtS S O x w) (hT : Tab w) (hS : ∀ b, S b → b < w.heap.size) :
  Calls Tryz.prog 52 #[spotV x, .int .i64 (ahead : Int), takV t] w fun e w' => e = .returned (.int .i64 (wrongE x.ls ahead t)) ∧ Gr w w' := by
 obtain ⟨f, b, o, i, m, ao', ca', hf, hle, hr, hSb, p, hp⟩ := hx.f
 have hi : x.ls.idx = i := by show x.path.getLastD 0 = i; rw [hp]; simp
 have hfe : x.ls.fld = f := by show (x.list[x.ls.idx]?).getD default = f; rw [hi, hf.fe]; rfl
 have hrow : ∀ W, Gr w W → RowAt S W (x.d + 1) x.ao x.list := fun W g => hx.row.kept fun b h => g.block b (hS b h) id
 have hrk : ∀ W, Gr w W → RowAt S W x.d ao' f.kids := fun W g => hr.kept fun b h => g.block b (hS b h) id
 have hSg : ∀ W, Gr w W → ∀ b, S b → b < W.heap.size := fun W g b h => Nat.lt_of_lt_of_le (hS b h) g.size
 have := wrong_walk x.ao x.list.length x.ca x.wb x.path.length x.wc x.inD i t ahead f.name f.nul f.kind f.width f.id f.index ao' f.kids.length ca' (nameB f.name) (idxOf x.list f.name) (tableB f) (nullB f) (kid0 f) w
  (by have := hx.deep; unfold big at this; omega)
  (fun W g => field_any x f b o i m ao' ca' W (hf.gr g))
  (fun W => isName_any f.name W)
  (fun W g => numberOfName_any S (x.d + 1) x.ao x.ca x.list f.name W (hrow W g) (hSg W g))
  (fun W g => by
   have h2 := hf.gr g
   rw [hf.len]
   exact (number_exact x.ao x.list.length x.ca x.wb m x.wc i x.inD h2.bm W h2.wc).mono fun e w' h => ⟨h.1, by rw [h.2]; exact gr_alloc _ _⟩)
  (fun W g => fitsTable_any f ao' ca' W (hT.gr g) hr.len)
  (fun ht W g => fitsNull_any f ao' ca' S x.d W (hrk W g) (tab_kids ht).2)
  (fun ht hk => by
   obtain ⟨h1, h2, h3⟩ := (tab_kids ht).1 hk
   cases hd : x.d with
   | zero => rw [hd] at hr; exact absurd hr h1
   | succ d =>
    rw [hd] at hr
    obtain ⟨b', o', e, _, hcs⟩ := hr.2 h1
    have hpos : 0 < f.kids.length := List.length_pos_iff.2 h1
    obtain ⟨ao2, ca2, hc, _⟩ := hcs 0 hpos
    refine ⟨b', o', f.id.toNat, e, hpos, ?_, by omega, by omega⟩
    have := hc.c1
    simp only [Nat.zero_mul, Nat.add_zero] at this
    rw [this]
    simp [kid0, List.getElem?_eq_getElem hpos])
 unfold wrongE
 rw [hfe, hi]
 exact this
theorem clone_any (b n c : Nat) (l : List Nat) (hl : l.length = n) (hb : n ≤ big) (w : World) (h : w.ownsRow 0 3 1 (.slice (some ⟨b, 0, none⟩) n c) n (ints l)) :
  Calls Tryz.prog 53 #[.slice (some ⟨b, 0, none⟩) n c] w fun e w' => ∃ vo vc, e = .returned (.slice vo n vc) ∧ w'.ownsRow 0 3 1 (.slice vo n vc) n (ints l) ∧ Gr w w' ∧ (∀ g, (Value.slice vo n vc).ownBlock = some g → w.heap.size ≤ g) := by
 have hb2 : n ≤ 1000000000000 := hb
 have hs : ∀ o, Src Tryz.prog 1 29 (.slice (some ⟨b, 0, none⟩) n c) n (ints l) (w.alloc o) := fun o => by
  have h2 : (w.alloc o).ownsRow 0 3 1 (.slice (some ⟨b, 0, none⟩) n c) n (ints l) := own_kp h fun g e => (gr_alloc w o).block g (own_lt h g e) id
  exact Src.ofSlice (w := w.alloc o) Tryz.underlying29 ⟨b, 0, none⟩ n c (ints l) (by simp [ints, hl]) (h2.cells rfl) (fun u hu => by simp [ints] at hu; obtain ⟨a, _, rfl⟩ := hu; rfl)
 have HS : Hid _ := hs
 have HE : Hid ((w.alloc (.cells #[] 3)).ownsRow 0 3 1 (.slice (some ⟨w.heap.size, 0, none⟩) 0 0) 0 []) := ⟨rfl, .inr ⟨w.heap.size, 0, #[], rfl, Nat.zero_le _, World.alloc_heap_new w _, Nat.le_refl _, Nat.zero_le _, rfl, rfl⟩⟩
 have hq : ∀ w, (binOp .eql 29 (.slice (some ⟨b, 0, none⟩) n c) (.slice none 0 0)).run Tryz.prog w = .ok (.bool false) w := fun w => by kernel_rfl
 clear hs h
 go_enter Tryz.func53, Tryz.ntmps53
 go_wp2_with (at_builtin; refine Hid.out ?_)
 unfold Hid
 refine wpList_append_any _ rfl (.tmp 5) (.tmp 6) 29 29 rfl 3 (.int .i64 0) 8 Tryz.underlying29 info3 rfl _ 0 [] rfl HE.out _ n (ints l) rfl (HS.out _) (by omega) (by omega) ?_
 intro v' w1 hown' hgrow hblk
 rw [Nat.zero_add, List.nil_append] at hown'
 obtain ⟨vo, vc, rfl⟩ : ∃ vo vc, v' = .slice vo n vc := by
  rcases hown'.2 with ⟨rfl, h0⟩ | ⟨g, cap, cur, rfl, _⟩
  ·exact ⟨none, 0, by rw [h0]⟩
  exact ⟨_, _, rfl⟩
 have HF : Hid (w1.ownsRow 0 3 1 (.slice vo n vc) n (ints l) ∧ Gr w w1 ∧ (∀ g, (Value.slice vo n vc).ownBlock = some g → w.heap.size ≤ g)) := by
  refine ⟨hown', (gr_alloc w _).trans (Keeps.ofGrown hgrow) (fun j hj e => by have e' : (Value.slice (some ⟨w.heap.size, 0, none⟩) 0 0).ownBlock = some j := e; cases e'; exact absurd hj (Nat.lt_irrefl w.heap.size)), fun g e => ?_⟩
  rcases hblk with h | h
  ·rw [h] at e
   have e' : (Value.slice (some ⟨w.heap.size, 0, none⟩) 0 0).ownBlock = some g := e
   cases e'; exact Nat.le_refl w.heap.size
  have := h g e; simp at this; omega
 clear hown' hgrow hblk
 go_wp2
 go_ret
 exact ⟨_, _, rfl, HF.out.1, HF.out.2.1, HF.out.2.2⟩
def NotesAt (W : World) (no : Option Addr) (l : List (ByteArray × ByteArray)) : Prop :=
 l.length ≤ big ∧ (l ≠ [] → ∃ b o, no = some ⟨b, o, none⟩ ∧ ∀ i (h : i < l.length), W.cell? ⟨b, o + i * 2, none⟩ = some (.string l[i].1) ∧ W.cell? ⟨b, o + i * 2 + 1, none⟩ = some (.string l[i].2))
theorem NotesAt.gr {W W' : World} {no : Option Addr} {l : List (ByteArray × ByteArray)} (h : NotesAt W no l) (g : Gr W W') : NotesAt W' no l :=
 ⟨h.1, fun hn => by
  obtain ⟨b, o, e, hc⟩ := h.2 hn
  exact ⟨b, o, e, fun i hi => ⟨g.cell' (hc i hi).1 (fun h => h), g.cell' (hc i hi).2 (fun h => h)⟩⟩⟩
def noteBad (n : ByteArray × ByteArray) : Bool := decide (256 < n.1.size) || decide (256 < n.2.size)
def listsE (nf : Nat) (l : List (ByteArray × ByteArray)) : Int × Int :=
 if 32 < nf then (34, 32) else if 16 < l.length then (34, 16) else if l.findIdx noteBad < l.length then (37, l.findIdx noteBad) else (0, 0)
def fltV (e : Int) (p : Value) (a : Int) : Value := .agg #[.int .i64 e, p, .int .i64 a]
theorem cell3 {W : World} {B t : Nat} {x y z : Value} (h : W.heap[B]? = some (.cells #[x, y, z] t)) : W.cell? ⟨B, 0, none⟩ = some x ∧ W.cell? ⟨B, 1, none⟩ = some y ∧ W.cell? ⟨B, 2, none⟩ = some z := by simp [World.cell?, h]
theorem frz {W : World} {B t : Nat} {c : Array Value} (h : W.heap[B]? = some (.cells c t)) (j : Nat) : W.frozen? ⟨B, j, none⟩ = false := by simp [World.frozen?, h]
theorem idx_bad {l : List (ByteArray × ByteArray)} {k : Nat} (hk : k < l.length) (h : ∀ i (h : i < l.length), i < k → noteBad l[i] = false) (hx : noteBad l[k] = true) : l.findIdx noteBad = k := by
 rw [List.findIdx_eq hk]
 exact ⟨hx, fun j hj => by rw [h j (by omega) hj]⟩
theorem idx_good {l : List (ByteArray × ByteArray)} (h : ∀ i (h : i < l.length), noteBad l[i] = false) : ¬ l.findIdx noteBad < l.length := fun hlt => by
 have := List.findIdx_getElem (w := hlt)
 rw [h _ hlt] at this
 cases this
theorem lists_any (fo no : Option Addr) (nf cf cn : Nat) (l : List (ByteArray × ByteArray)) (w : World) (hn : NotesAt w no l) :
  Calls Tryz.prog 50 #[.agg #[.slice fo nf cf, .slice no l.length cn]] w fun e w' => e = .returned (fltV (listsE nf l).1 (.slice none 0 0) (listsE nf l).2) ∧ Gr w w' := by
 have HN : Hid _ := hn
 obtain ⟨E, hE⟩ : ∃ E, E = listsE nf l := ⟨_, rfl⟩
 rw [← hE]
 have HE : Hid _ := hE
 obtain ⟨L, hL⟩ : ∃ L, L = l.length := ⟨_, rfl⟩
 rw [← hL]
 have HL : Hid _ := hL
 clear hn hE hL
 unfold fltV
 go_enter Tryz.func50, Tryz.ntmps50
 have hbx : ∀ (x y z : Value), ((w.alloc (.cells #[.slice fo nf cf, .slice no L cn] 25)).alloc (.cells #[x, y, z] 52)).heap[w.heap.size + 1]? = some (.cells #[x, y, z] 52) := fun x y z => by
  have := World.alloc_heap_new (w.alloc (.cells #[.slice fo nf cf, .slice no L cn] 25)) (.cells #[x, y, z] 52)
  rw [World.size_alloc] at this
  exact this
 have HX : Hid _ := hbx
 have HG : Hid (∀ o o', Gr w ((w.alloc o).alloc o')) := fun o o' => (gr_alloc w o).alloc o'
 clear hbx
 by_cases c1 : 32 < nf
 ·have c1' : (32 : Int) < (nf : Int) := by omega
  go_wp2
  obtain ⟨t0, t1, t2⟩ := cell3 (HX.out (.int .i64 34) (.slice none 0 0) (.int .i64 32))
  refine bodyPost_ret (v := .agg #[.int .i64 34, .slice none 0 0, .int .i64 32]) ?_ rfl ?_
  ·simp [results, Tryz.f50, go_sem, t0, t1, t2]
  exact ⟨by rw [HE.out]; simp [listsE, c1], HG.out _ _⟩
 have c1' : ¬ (32 : Int) < (nf : Int) := by omega
 by_cases c2 : 16 < L
 ·have c2' : (16 : Int) < (L : Int) := by omega
  go_wp2
  obtain ⟨t0, t1, t2⟩ := cell3 (HX.out (.int .i64 34) (.slice none 0 0) (.int .i64 16))
  refine bodyPost_ret (v := .agg #[.int .i64 34, .slice none 0 0, .int .i64 16]) ?_ rfl ?_
  ·simp [results, Tryz.f50, go_sem, t0, t1, t2]
  exact ⟨by rw [HE.out]; have := HL.out; simp [listsE, c1, ← this, c2], HG.out _ _⟩
 have c2' : ¬ (16 : Int) < (L : Int) := by omega
 have HC : Hid (¬ 32 < nf ∧ ¬ 16 < L) := ⟨c1, c2⟩
 have hL16 : L ≤ 16 := by omega
 go_wp2
 have HX0 := hidM (HX.out (.int .i64 0) (.slice none 0 0) (.int .i64 0))
 have HG0 := hidM (HG.out (.cells #[.slice fo nf cf, .slice no L cn] 25) (.cells #[.int .i64 0, .slice none 0 0, .int .i64 0] 52))
 generalize ((w.alloc (.cells #[.slice fo nf cf, .slice no L cn] 25)).alloc (.cells #[.int .i64 0, .slice none 0 0, .int .i64 0] 52)) = W0 at *
 clear HX HG
 obtain ⟨B, hB⟩ : ∃ B, B = w.heap.size + 1 := ⟨_, rfl⟩
 rw [← hB] at HX0 ⊢
 have HB : Hid _ := hB
 clear hB
 go_loopw [18] (fun i wr => ∃ k : Nat, k ≤ L ∧ i = .int .i64 (k : Int) ∧ Hid (Gr w wr ∧ wr.heap[B]? = some (.cells #[.int .i64 0, .slice none 0 0, .int .i64 0] 52) ∧ ∀ i (h : i < l.length), i < k → noteBad l[i] = false)) (fun i _ => L - (intOf i).toNat)
 case atStart => exact ⟨0, by omega, rfl, HG0.out, HX0.out, fun i h h0 => by omega⟩
 case round =>
  clear HX0 HG0
  obtain ⟨k, hk, rfl, HK⟩ := hrel
  by_cases hlt : k < L
  ·have hl := HL.out
   have hkl : k < l.length := by omega
   obtain ⟨b, o, rfl, hcs⟩ := HN.out.2 (fun e => by rw [e] at hkl; simp at hkl)
   obtain ⟨g0, g1⟩ := hcs k hkl
   replace g0 := HK.out.1.cell' g0 (fun h => h)
   replace g1 := HK.out.1.cell' g1 (fun h => h)
   have HBk : Hid (noteBad l[k] = (decide (256 < l[k].1.size) || decide (256 < l[k].2.size))) := rfl
   have HE1 : Hid (noteBad l[k] = true → E = (37, (k : Int))) := fun hx => by
    have e := idx_bad hkl HK.out.2.2 hx
    rw [HE.out]; unfold listsE
    rw [if_neg HC.out.1, if_neg (by have := HC.out.2; omega), e, if_pos hkl]
   have HM : Hid (noteBad l[k] = false → ∀ i (h : i < l.length), i < k + 1 → noteBad l[i] = false) := fun hx i hi hlt => by
    by_cases e : i = k
    ·subst e; exact hx
    exact HK.out.2.2 i hi (by omega)
   have HW : Hid (Gr w wr ∧ wr.heap[B]? = some (.cells #[.int .i64 0, .slice none 0 0, .int .i64 0] 52)) := ⟨HK.out.1, HK.out.2.1⟩
   have hbx : ∀ o, (wr.alloc o).heap[B]? = some (.cells #[.int .i64 0, .slice none 0 0, .int .i64 0] 52) := fun o => ((gr_alloc wr o).block _ (lt_of_heap HK.out.2.1) (fun h => h)).trans HK.out.2.1
   have y0 := fun o => (cell3 (hbx o)).1
   have y1 := fun o => (cell3 (hbx o)).2.1
   have y2 := fun o => (cell3 (hbx o)).2.2
   have y3 := fun o => frz (hbx o) 0
   have y4 := fun o => frz (hbx o) 1
   have y5 := fun o => frz (hbx o) 2
   have HBX : Hid _ := hbx
   generalize noteBad l[k] = nb at HBk HE1 HM
   generalize l[k].1 = n0 at *
   generalize l[k].2 = n1 at *
   clear hcs hl hkl HK HN hbx
   have fin : ∀ W4, W4 = (((wr.alloc (.cells #[.string n0, .string n1] 63)).setCell ⟨B, 0, none⟩ (.int .i64 37)).setCell ⟨B, 1, none⟩ (.slice none 0 0)).setCell ⟨B, 2, none⟩ (.int .i64 (k : Int)) → W4.heap[B]? = some (.cells #[.int .i64 37, .slice none 0 0, .int .i64 (k : Int)] 52) ∧ Gr w W4 := by
    intro W4 e
    refine ⟨?_, ?_⟩
    ·rw [e, setc (j := 2) (setc (j := 1) (setc (j := 0) (HBX.out _) _) _) _]; simp
    rw [e]
    have k1 : Keeps (wr.alloc (.cells #[.string n0, .string n1] 63)) _ (fun b => b = B) := keep1 (j := 2) (keep1 (j := 1) (keep1 (j := 0) (Keeps.refl (wr.alloc (.cells #[.string n0, .string n1] 63)) (fun b => b = B)) (.int .i64 37)) (.slice none 0 0)) (.int .i64 (k : Int))
    exact (HW.out.1.alloc _).trans (T := fun b => b = B) k1 (fun j hj h => by have := HB.out; omega)
   have HFN : Hid _ := fin
   clear fin
   by_cases d1 : 256 < n0.size
   ·have d1' : (256 : Int) < (n0.size : Int) := by omega
    have hnb : nb = true := by rw [HBk.out]; simp [d1]
    have HE2 := hidM (HE1.out hnb)
    clear HE1 HM HBk
    go_wp2_with fail
    obtain ⟨hb4, hg4⟩ := HFN.out _ rfl
    obtain ⟨t0, t1, t2⟩ := cell3 hb4
    refine bodyPost_ret (v := .agg #[.int .i64 37, .slice none 0 0, .int .i64 (k : Int)]) ?_ rfl ?_
    ·simp [results, Tryz.f50, go_sem, t0, t1, t2]
    exact ⟨by rw [HE2.out], hg4⟩
   have d1' : ¬ (256 : Int) < (n0.size : Int) := by omega
   by_cases d2 : 256 < n1.size
   ·have d2' : (256 : Int) < (n1.size : Int) := by omega
    have hnb : nb = true := by rw [HBk.out]; simp [d2]
    have HE2 := hidM (HE1.out hnb)
    clear HE1 HM HBk
    go_wp2_with fail
    obtain ⟨hb4, hg4⟩ := HFN.out _ rfl
    obtain ⟨t0, t1, t2⟩ := cell3 hb4
    refine bodyPost_ret (v := .agg #[.int .i64 37, .slice none 0 0, .int .i64 (k : Int)]) ?_ rfl ?_
    ·simp [results, Tryz.f50, go_sem, t0, t1, t2]
    exact ⟨by rw [HE2.out], hg4⟩
   have d2' : ¬ (256 : Int) < (n1.size : Int) := by omega
   have hnb : nb = false := by rw [HBk.out]; simp; omega
   have HM2 := hidM (HM.out hnb)
   clear HE1 HM HBk
   go_wp2_with fail
   go_roundw
   case rel => exact ⟨k + 1, by omega, by simp, HW.out.1.alloc _, HBX.out _, HM2.out⟩
   case measure => simp [intOf]; omega
  have HE1 : Hid (E = (0, 0)) := by
   have e := idx_good (l := l) fun i hi => HK.out.2.2 i hi (by have := HL.out; omega)
   show _ = _
   rw [HE.out]; unfold listsE
   rw [if_neg HC.out.1, if_neg (by have := HC.out.2; have := HL.out; omega), if_neg e]
  have hg := HK.out.1
  have hbx := HK.out.2.1
  obtain ⟨y0, y1, y2⟩ := cell3 hbx
  have y3 := frz hbx 0
  have y4 := frz hbx 1
  have y5 := frz hbx 2
  have fin : ∀ W4, W4 = ((wr.setCell ⟨B, 0, none⟩ (.int .i64 0)).setCell ⟨B, 1, none⟩ (.slice none 0 0)).setCell ⟨B, 2, none⟩ (.int .i64 0) → W4.heap[B]? = some (.cells #[.int .i64 0, .slice none 0 0, .int .i64 0] 52) ∧ Gr w W4 := by
   intro W4 e
   refine ⟨?_, ?_⟩
   ·rw [e, setc (j := 2) (setc (j := 1) (setc (j := 0) hbx _) _) _]; simp
   rw [e]
   have k1 : Keeps wr _ (fun b => b = B) := keep1 (j := 2) (keep1 (j := 1) (keep1 (j := 0) (Keeps.refl wr (fun b => b = B)) (.int .i64 0)) (.slice none 0 0)) (.int .i64 0)
   exact hg.trans (T := fun b => b = B) k1 (fun j hj h => by have := HB.out; omega)
  have HFN : Hid _ := fin
  have hkL : k = L := by omega
  subst hkL
  clear fin HK hg hbx HN
  go_wp2_with fail
  obtain ⟨hb4, hg4⟩ := HFN.out _ rfl
  obtain ⟨t0, t1, t2⟩ := cell3 hb4
  refine bodyPost_ret (v := .agg #[.int .i64 0, .slice none 0 0, .int .i64 0]) ?_ rfl ?_
  ·simp [results, Tryz.f50, go_sem, t0, t1, t2]
  exact ⟨by rw [HE1.out], hg4⟩
def IntsAt (W : World) (ao : Option Addr) (l : List Nat) : Prop := l ≠ [] → ∃ b o, ao = some ⟨b, o, none⟩ ∧ ∀ j (h : j < l.length), W.cell? ⟨b, o + j, none⟩ = some (.int .i64 (l[j] : Int))
theorem ints_of_own {W : World} {vo : Option Addr} {n vc : Nat} {l : List Nat} (h : W.ownsRow 0 3 1 (.slice vo n vc) n (ints l)) : IntsAt W vo l := fun hn => by
 have hl : l.length = n := by have := h.1; simpa [ints] using this
 rcases h.2 with ⟨e, h0⟩ | ⟨g, cap, cur, e, _⟩
 ·exact absurd (List.eq_nil_of_length_eq_zero (by omega)) hn
 cases e
 refine ⟨g, 0, rfl, fun j hj => ?_⟩
 rw [Nat.zero_add, h.cellAt j (by omega)]
 simp [ints, hj]
def nodesC : Nat → List FT → List Nat → Bool → List LS
 | 0, _, _, _ => []
 | d + 1, l, path, inD => (List.range l.length).flatMap fun i => ⟨l, path ++ [i], inD⟩ :: (if path.length + 1 ≤ 64 then nodesC d (l[i]!).kids (path ++ [i]) (inD || decide ((l[i]!).kind = 19)) else [])
def uptoC (d : Nat) (l : List FT) (path : List Nat) (inD : Bool) (i : Nat) : List LS :=
 (List.range i).flatMap fun i => ⟨l, path ++ [i], inD⟩ :: (if path.length + 1 ≤ 64 then nodesC d (l[i]!).kids (path ++ [i]) (inD || decide ((l[i]!).kind = 19)) else [])
theorem nodesC_succ (d : Nat) (l : List FT) (path : List Nat) (inD : Bool) : nodesC (d + 1) l path inD = uptoC d l path inD l.length := rfl
theorem uptoC_zero (d : Nat) (l : List FT) (path : List Nat) (inD : Bool) : uptoC d l path inD 0 = [] := rfl
theorem uptoC_succ (d : Nat) (l : List FT) (path : List Nat) (inD : Bool) (i : Nat) :
  uptoC d l path inD (i + 1) = uptoC d l path inD i ++ ⟨l, path ++ [i], inD⟩ :: (if path.length + 1 ≤ 64 then nodesC d (l[i]!).kids (path ++ [i]) (inD || decide ((l[i]!).kind = 19)) else []) := by
 simp [uptoC, List.range_succ, List.flatMap_append]
theorem uptoC_prefix (d : Nat) (l : List FT) (path : List Nat) (inD : Bool) {i j : Nat} (h : i ≤ j) : uptoC d l path inD i <+: uptoC d l path inD j := by
 induction j with
 | zero => obtain rfl : i = 0 := by omega
           exact List.prefix_rfl
 | succ j ih =>
  by_cases e : i = j + 1
  ·subst e; exact List.prefix_rfl
  exact (ih (by omega)).trans (by rw [uptoC_succ]; exact List.prefix_append _ _)
def grown (out new : List LS) : List LS := (out ++ new).take 257
theorem grown_full {out new more : List LS} (h : 256 < (grown out new).length) (hp : new <+: more) : grown out more = grown out new := by
 obtain ⟨t, rfl⟩ := hp
 simp only [grown, List.length_take] at h
 simp only [grown, ← List.append_assoc]
 exact List.take_append_of_le_length (by omega)
theorem grown_room {out new : List LS} (h : (grown out new).length ≤ 256) : grown out new = out ++ new := by
 simp only [grown, List.length_take] at h
 exact List.take_of_length_le (by omega)
theorem grown_le (out new : List LS) : (grown out new).length ≤ 257 := by simp [grown]; omega
theorem grown_step {out new : List LS} (h : (grown out new).length ≤ 256) (x : LS) (kids : List LS) : grown (grown out new ++ [x]) kids = grown out (new ++ x :: kids) := by
 rw [grown_room h]
 simp [grown]
theorem grown_one {out new : List LS} (h : (grown out new).length ≤ 256) (x : LS) : grown out (new ++ [x]) = grown out new ++ [x] := by
 have e := grown_room h
 rw [e]
 rw [e] at h
 simp only [grown, ← List.append_assoc]
 exact List.take_of_length_le (by simp at h ⊢; omega)
theorem cut_same : ∀ (d : Nat) (l : List FT) (path : List Nat) (inD : Bool) (k : Nat), (∀ x ∈ (nodes d l path inD).take k, x.path.length ≤ 64) →
  (nodes d l path inD).take (k + 1) = (nodesC d l path inD).take (k + 1) ∧ ((∀ x ∈ nodes d l path inD, x.path.length ≤ 64) → nodesC d l path inD = nodes d l path inD)
 | 0, _, _, _, _, _ => ⟨rfl, fun _ => rfl⟩
 | d + 1, l, path, inD, k, h => by
  rw [nodes_succ, nodesC_succ]
  rw [nodes_succ] at h
  by_cases hp : path.length + 1 ≤ 64
  ·-- the way is short enough here: by the fields within
   have key : ∀ n k, (∀ x ∈ (upto d l path inD n).take k, x.path.length ≤ 64) → (upto d l path inD n).take (k + 1) = (uptoC d l path inD n).take (k + 1) ∧ ((∀ x ∈ upto d l path inD n, x.path.length ≤ 64) → uptoC d l path inD n = upto d l path inD n) := by
    intro n
    induction n with
    | zero => exact fun _ _ => ⟨rfl, fun _ => rfl⟩
    | succ n ih =>
     intro k hk
     have hwhole : (∀ x ∈ upto d l path inD (n + 1), x.path.length ≤ 64) → uptoC d l path inD (n + 1) = upto d l path inD (n + 1) := by
      intro hall
      rw [upto_succ] at hall ⊢
      rw [uptoC_succ, if_pos hp, (ih 0 (by simp)).2 (fun x hx => hall x (List.mem_append_left _ hx)),
       (cut_same d (l[n]!).kids (path ++ [n]) _ 0 (by simp)).2 (fun x hx => hall x (List.mem_append_right _ (List.mem_cons_of_mem _ hx)))]
     refine ⟨?_, hwhole⟩
     rw [upto_succ] at hk ⊢
     rw [uptoC_succ, if_pos hp]
     by_cases hlt : k < (upto d l path inD n).length
     ·have h1 := (ih k (fun x hx => hk x (by rw [List.take_append_of_le_length (by omega)]; exact hx))).1
      have hlen : k + 1 ≤ (uptoC d l path inD n).length := by
       have := congrArg List.length h1
       simp only [List.length_take] at this
       omega
      rw [List.take_append_of_le_length (by omega), List.take_append_of_le_length hlen, h1]
     have hall : ∀ x ∈ upto d l path inD n, x.path.length ≤ 64 := fun x hx => hk x (by
      rw [List.take_append]
      exact List.mem_append_left _ (by rw [List.take_of_length_le (by omega)]; exact hx))
     rw [(ih 0 (by simp)).2 hall, List.take_append, List.take_append]
     congr 1
     obtain ⟨m, hm⟩ : ∃ m, k = (upto d l path inD n).length + m := ⟨k - (upto d l path inD n).length, by omega⟩
     have e1 : k + 1 - (upto d l path inD n).length = m + 1 := by omega
     rw [e1, List.take_succ_cons, List.take_succ_cons]
     congr 1
     cases m with
     | zero => simp
     | succ m =>
      refine (cut_same d (l[n]!).kids (path ++ [n]) _ m fun x hx => hk x ?_).1
      rw [List.take_append]
      refine List.mem_append_right _ ?_
      rw [show k - (upto d l path inD n).length = m + 1 by omega, List.take_succ_cons]
      exact List.mem_cons_of_mem _ hx
   exact key l.length k h
  -- the way is too long already: the first is too deep
  cases l with
  | nil => exact ⟨rfl, fun _ => rfl⟩
  | cons f l =>
   obtain ⟨t, ht⟩ : ∃ t, upto d (f :: l) path inD (f :: l).length = ⟨f :: l, path ++ [0], inD⟩ :: t := by
    have := upto_prefix d (f :: l) path inD (i := 1) (j := (f :: l).length) (by simp)
    rw [upto_succ, upto_zero] at this
    obtain ⟨t, ht⟩ := this
    exact ⟨_, ht.symm⟩
   obtain ⟨t', ht'⟩ : ∃ t, uptoC d (f :: l) path inD (f :: l).length = ⟨f :: l, path ++ [0], inD⟩ :: t := by
    have := uptoC_prefix d (f :: l) path inD (i := 1) (j := (f :: l).length) (by simp)
    rw [uptoC_succ, uptoC_zero] at this
    obtain ⟨t, ht⟩ := this
    exact ⟨_, ht.symm⟩
   rw [ht] at h ⊢
   rw [ht']
   cases k with
   | zero => exact ⟨by simp, fun hall => absurd (hall _ (List.mem_cons_self ..)) (by simp; omega)⟩
   | succ k => exact absurd (h _ (by rw [List.take_succ_cons]; exact List.mem_cons_self ..)) (by simp; omega)
end Go.Proofs.YthhpamhfnpacpaaGreatDoor.Kit
namespace Go.Proofs.YthhpamhfnpacpaaGreatDoor.Kit
open Go.RowKit Go.Deep
section
variable {P : Program} (w : World)
theorem run_append_anyN (t tx ty e : TypeId) (i : TypeInfo) (z : Value) (bytes : Nat) (ht : P.underlying t = some (.slice e)) (hi : P.info? e = some i) (hz : i.zero = some z) (size : Nat) (hsize : i.size = size) (hby : i.bytes = bytes) (hzs : z.cells.size = size)
  (v : Value) (n : Nat) (xs : List Value) (hown : w.ownsRow 0 e size v n xs) (x : Value) (m : Nat) (news : List Value) (hs : Src P size tx x m news w)
  (h63 : n + m ≤ 9223372036854775807) (hbytes : (n + m) * bytes ≤ 140737488355328) :
  ∃ v' w', (Builtin.append_ #[t, tx] ty #[v, x]).run P w = .ok v' w' ∧ w'.ownsRow 0 e size v' (n + m) (xs ++ news) ∧ w.grownBy w' v.ownBlock ∧
   (v'.ownBlock = v.ownBlock ∨ ∀ g, v'.ownBlock = some g → w.heap.size ≤ g) := by
 subst hby
 have hlen : (xs ++ news).length = (n + m) * size := by rw [List.length_append, hown.1, hs.newsLen, Nat.add_mul]
 have grown : ∀ (old : Nat), old < n + m → ∀ (row : Option Nat),
   (w.drew.alloc (.cells ((xs ++ news).toArray ++ Builtin.zeroCells z.cells (grownCap w (n + m) old e - (n + m))) e)).ownsRow 0 e size
    (.slice (some ⟨w.heap.size, 0, none⟩) (n + m) (grownCap w (n + m) old e)) (n + m) (xs ++ news) ∧
   w.grownBy (w.drew.alloc (.cells ((xs ++ news).toArray ++ Builtin.zeroCells z.cells (grownCap w (n + m) old e - (n + m))) e)) row := by
  intro old ho row
  have hge := grownCap_ge w (n + m) old e
  have hcm : grownCap w (n + m) old e ≤ maxLen := grownCap_le_maxLen w (n + m) old e h63
  refine ⟨⟨hlen, .inr ⟨w.heap.size, _, _, rfl, Nat.zero_le _, heap_alloc_new w.drew _, hge, hcm, ?_, ?_⟩⟩, ⟨rfl, rfl, rfl, by simp, fun k hk _ => Below.heap_alloc w.drew _ k hk⟩⟩
  ·simp only [Array.size_append, List.size_toArray, size_zeroCells, hzs, hlen, ← Nat.add_mul]
   congr 1
   omega
  simp only [Array.toList_append]
  rw [← hlen]
  exact List.take_left
 rcases hown.2 with ⟨rfl, rfl⟩ | ⟨g, cap, cur, rfl, hbg, hg, hnc, hcm, hcs, htake⟩
 ·have hx : xs = [] := List.eq_nil_of_length_eq_zero (by simpa using hown.1)
  subst hx
  by_cases hm : m = 0
  ·subst hm
   have hn : news = [] := List.eq_nil_of_length_eq_zero (by have := hs.newsLen; simpa using this)
   subst hn
   refine ⟨.slice none 0 0, w, ?_, World.ownsRow_nil w 0 e size, ⟨rfl, rfl, rfl, Nat.le_refl _, fun _ _ _ => rfl⟩, .inl rfl⟩
   have hc := hs.cells
   have hl := hs.len
   rcases hs.kind with ⟨e', hk⟩ | hk <;> simp [Builtin.append_, run_underlying ht, run_underlying hk, sizeOf, typeInfo, hi, hsize, hl, hc]
  have hr := run_append_grow_src (P := P) w t tx ty e i z ht hi hz none 0 0 [] (by simpa using run_firstCells_none w.drew i.size 0 0 0) x m news (by rw [hsize]; exact hs) (by omega) (by omega) (growslice_fits (by omega) hbytes)
  have hgr := grown 0 (by omega) (Value.ownBlock (.slice none 0 0))
  exact ⟨_, _, hr, hgr.1, hgr.2, .inr fun g hg => by simp [Value.ownBlock] at hg; omega⟩
 by_cases hroom : n + m ≤ cap
 ·have hl := hs.newsLen
  have hfit : n * i.size + news.length ≤ cur.size := by rw [hl, hcs, hsize, ← Nat.add_mul]; exact Nat.mul_le_mul_right _ hroom
  have hr := run_append_room_row (P := P) w t tx ty e i ht hi g n cap cur hg x m news (by rw [hsize]; exact hs) hroom hfit
  rw [hsize] at hr hfit
  refine ⟨_, _, hr, ⟨hlen, .inr ⟨g, cap, _, rfl, hbg, setRow_heap w g cur _ e _ hg, hroom, hcm, ?_, ?_⟩⟩, ⟨rfl, rfl, rfl, by simp, fun k _ hk => setRow_other w g k _ (fun e => hk (by simp [Value.ownBlock, e]))⟩, .inl rfl⟩
  ·simp only [List.size_toArray, List.length_append, List.length_take, List.length_drop, Array.length_toList]
   omega
  rw [htake, ← hlen]
  exact List.take_left
 have holds : ∀ j u, xs[j]? = some u → w.cell? ((⟨g, 0, none⟩ : Addr).add j) = some u := hown.cells (g := g) rfl
 have hr := run_append_grow_src (P := P) w t tx ty e i z ht hi hz (some ⟨g, 0, none⟩) n cap xs (run_firstCells_some w.drew i.size n ⟨g, 0, none⟩ n cap xs (by rw [hsize]; exact hown.1) (by simpa using holds)) x m news (by rw [hsize]; exact hs) (by omega) (by omega) (growslice_fits (by omega) hbytes)
 have hgr := grown cap (by omega) (Value.ownBlock (.slice (some ⟨g, 0, none⟩) n cap))
 exact ⟨_, _, hr, hgr.1, hgr.2, .inr fun g' hg' => by simp [Value.ownBlock] at hg'; omega⟩
theorem wpList_append_anyN {ops : Array Oper} {rest : List Oper} {o : Oper} {a : Act} {Q : Exit → Act → World → Prop} (hgd : o.guard = none) (s x : Operand) (t tx : TypeId)
  (ho : o.op = .call { callee := .builtin .append, args := #[s, x], argTypes := #[t, tx] })
  (e : TypeId) (z : Value) (size bytes : Nat) (ht : P.underlying t = some (.slice e)) (hinfo : (P.info? e).map (fun i => (i.zero, i.size, i.bytes)) = some (some z, size, bytes)) (hzs : z.cells.size = size)
  (v : Value) (n : Nat) (xs : List Value) (hv : a.eval s = v) (hown : w.ownsRow 0 e size v n xs) (y : Value) (m : Nat) (news : List Value) (hx : a.eval x = y) (hs : Src P size tx y m news w)
  (h63 : n + m ≤ 9223372036854775807) (hbytes : (n + m) * bytes ≤ 140737488355328)
  (h : ∀ v' w', w'.ownsRow 0 e size v' (n + m) (xs ++ news) → w.grownBy w' v.ownBlock → (v'.ownBlock = v.ownBlock ∨ ∀ g, v'.ownBlock = some g → w.heap.size ≤ g) → wpList P ops Q rest (a.put o.dst v') w') :
  wpList P ops Q (o :: rest) a w := by
 refine wpList_plain hgd fun K hK' => ?_
 obtain ⟨i, hi, hzz⟩ := Option.map_eq_some_iff.1 hinfo
 simp only [Prod.mk.injEq] at hzz
 obtain ⟨hz, hsz, hb⟩ := hzz
 obtain ⟨v', w', hr, h2, h3, h4⟩ := run_append_anyN (P := P) w t tx o.type e i z bytes ht hi hz size hsz hb hzs v n xs hown y m news hs h63 hbytes
 unfold Oper.wp
 simp [execOp, ho, resolve, invoke, builtin, hv, hx, hr, Result.andThen]
 exact hK' _ _ (h v' w' h2 h3 h4)
theorem step_append_anyN {ops : Array Oper} {o : Oper} {a : Act} {K : Act → World → Prop} {Q : Exit → Act → World → Prop} {E : Prop} (hgd : o.guard = none) (s x : Operand) (t tx : TypeId)
  (ho : o.op = .call { callee := .builtin .append, args := #[s, x], argTypes := #[t, tx] })
  (e : TypeId) (z : Value) (size bytes : Nat) (ht : P.underlying t = some (.slice e)) (hinfo : (P.info? e).map (fun i => (i.zero, i.size, i.bytes)) = some (some z, size, bytes)) (hzs : z.cells.size = size)
  (v : Value) (n : Nat) (xs : List Value) (hv : a.eval s = v) (hown : w.ownsRow 0 e size v n xs) (y : Value) (m : Nat) (news : List Value) (hx : a.eval x = y) (hs : Src P size tx y m news w)
  (h63 : n + m ≤ 9223372036854775807) (hbytes : (n + m) * bytes ≤ 140737488355328)
  (h : ∀ v' w', w'.ownsRow 0 e size v' (n + m) (xs ++ news) → w.grownBy w' v.ownBlock → (v'.ownBlock = v.ownBlock ∨ ∀ g, v'.ownBlock = some g → w.heap.size ≤ g) → K (a.put o.dst v') w') :
  if Region.wanted o (yielded ops a.tmps) = true then Oper.wp P o a w K Q else E := by
 have hw : Region.wanted o (yielded ops a.tmps) = true := by simp [Region.wanted, hgd]
 rw [if_pos hw]
 obtain ⟨i, hi, hzz⟩ := Option.map_eq_some_iff.1 hinfo
 simp only [Prod.mk.injEq] at hzz
 obtain ⟨hz, hsz, hb⟩ := hzz
 obtain ⟨v', w', hr, h2, h3, h4⟩ := run_append_anyN (P := P) w t tx o.type e i z bytes ht hi hz size hsz hb hzs v n xs hown y m news hs h63 hbytes
 unfold Oper.wp
 simp [execOp, ho, resolve, invoke, builtin, hv, hx, hr, Result.andThen]
 exact h v' w' h2 h3 h4
end
end Go.Proofs.YthhpamhfnpacpaaGreatDoor.Kit
namespace Go.Proofs.YthhpamhfnpacpaaGreatDoor.Kit
open Go.RowKit Go.Shelf Go.Deep
def nodeCells (x : LS) (wb wc : Nat) (fo : Option Addr) (fc : Nat) (ao : Option Addr) (ca : Nat) : List Value :=
 [.slice (some ⟨wb, 0, none⟩) x.path.length wc, .string x.fld.name, .bool x.fld.nul, .int .i64 x.fld.kind, .int .i64 x.fld.width, .int .i64 x.fld.id, .int .i64 x.fld.index, .slice fo x.fld.kids.length fc, .slice ao x.idx ca, .bool x.inD]
structure NodeIn (S : Nat → Prop) (W : World) (x : LS) (wb wc : Nat) (fo : Option Addr) (fc : Nat) (ao : Option Addr) (ca : Nat) : Prop where
 way : W.ownsRow 0 3 1 (.slice (some ⟨wb, 0, none⟩) x.path.length wc) x.path.length (ints x.path)
 row : ∃ D, RowAt S W (D + 1) ao x.list
 kids : ∃ D, RowAt S W D fo x.fld.kids
 le : x.list.length ≤ ca
 kle : x.fld.kids.length ≤ fc
 ix : x.idx < x.list.length
theorem row_apart {W : World} {t t' s s' n n' g : Nat} {v v' : Value} {xs ys : List Value} (h : W.ownsRow 0 t s v n xs) (h' : W.ownsRow 0 t' s' v' n' ys) (ht : t ≠ t') (e : v.ownBlock = some g) : v'.ownBlock ≠ some g := by
 intro e'
 rcases h.2 with ⟨rfl, _⟩ | ⟨g1, c1, cur1, rfl, _, hg1, _⟩
 ·simp [Value.ownBlock] at e
 rcases h'.2 with ⟨rfl, _⟩ | ⟨g2, c2, cur2, rfl, _, hg2, _⟩
 ·simp [Value.ownBlock] at e'
 simp [Value.ownBlock] at e e'
 subst e; subst e'
 rw [hg1] at hg2
 simp at hg2
 exact ht hg2.2
theorem row_kp {W W' : World} {t s n : Nat} {v : Value} {xs : List Value} (h : W.ownsRow 0 t s v n xs) (e : ∀ g, v.ownBlock = some g → W'.heap[g]? = W.heap[g]?) : W'.ownsRow 0 t s v n xs := by
 refine ⟨h.1, h.2.imp id ?_⟩
 rintro ⟨g, cap, cur, rfl, h0, hg, r⟩
 exact ⟨g, cap, cur, rfl, h0, (e g rfl).trans hg, r⟩
theorem own_formN {W : World} {t s n : Nat} {v : Value} {xs : List Value} (h : W.ownsRow 0 t s v n xs) : ∃ vo vc, v = .slice vo n vc := by
 rcases h.2 with ⟨rfl, rfl⟩ | ⟨g, cap, cur, rfl, _⟩
 ·exact ⟨_, _, rfl⟩
 exact ⟨_, _, rfl⟩
theorem size3 : (Tryz.prog.info? 3).map (·.size) = some 1 := by kernel_rfl
theorem splice_front {α : Type} (L cs : List α) (h : L.length = cs.length + 1) (u : α) : (splice L 0 cs).set cs.length u = cs ++ [u] := by
 obtain ⟨t, ht⟩ : ∃ t, L.drop cs.length = [t] := by
  have : (L.drop cs.length).length = 1 := by simp; omega
  exact List.length_eq_one_iff.1 this
 simp [splice, ht]
attribute [local go_sem] Oper.semAt_some run_store_func
def tkL (l : List LS) : Nat → Bool := fun n => l.any fun s => decide (s.fld.kind = 19) && decide (s.fld.id.toNat = n)
def AllR (l : List LS) : Prop := ∀ k (h : k < l.length), wrongE l[k] k (tkL (l.take k)) = 0
theorem AllR.nil : AllR [] := fun k h => by simp at h
theorem AllR.snoc {l : List LS} {x : LS} (h : AllR l) (hx : wrongE x l.length (tkL l) = 0) : AllR (l ++ [x]) := by
 intro k hk
 by_cases e : k < l.length
 ·rw [List.getElem_append_left e, List.take_append_of_le_length (by omega)]
  exact h k e
 have e2 : k = l.length := by simp at hk; omega
 subst e2
 rw [List.getElem_append_right (by omega)]
 simp [hx]
theorem tkL_snoc (l : List LS) (x : LS) (n : Nat) : tkL (l ++ [x]) n = (tkL l n || (decide (x.fld.kind = 19) && decide (x.fld.id.toNat = n))) := by simp [tkL]
def schV (fo no : Option Addr) (nf cf nn cn : Nat) : Value := .agg #[.slice fo nf cf, .slice no nn cn]
theorem AllR.len {l : List LS} (h : AllR l) : l.length ≤ 256 := by
 by_cases hl : 256 < l.length
 ·have := h 256 hl
  unfold wrongE wr at this
  split at this
  ·omega
  simp at this
 omega
def tkA (t : Nat → Bool) : Array Value := #[.bool (t 0), .bool (t 1), .bool (t 2), .bool (t 3), .bool (t 4), .bool (t 5), .bool (t 6), .bool (t 7), .bool (t 8), .bool (t 9), .bool (t 10), .bool (t 11), .bool (t 12), .bool (t 13), .bool (t 14), .bool (t 15), .bool (t 16), .bool (t 17), .bool (t 18), .bool (t 19), .bool (t 20), .bool (t 21), .bool (t 22), .bool (t 23), .bool (t 24), .bool (t 25), .bool (t 26), .bool (t 27), .bool (t 28), .bool (t 29), .bool (t 30), .bool (t 31)]
theorem tkA_get (t : Nat → Bool) (k : Nat) (hk : k < 32) : (tkA t)[k]? = some (.bool (t k)) := by
 have e : tkA t = ((List.range 32).map fun j => Value.bool (t j)).toArray := rfl
 rw [e]; simp [hk]
theorem tkA_set (t : Nat → Bool) (k : Nat) (hk : k < 32) : (tkA t).setIfInBounds k (.bool true) = tkA (fun n => t n || decide (k = n)) := by
 have e : ∀ t, tkA t = ((List.range 32).map fun j => Value.bool (t j)).toArray := fun _ => rfl
 rw [e, e]
 apply Array.ext'
 simp only [Array.toList_setIfInBounds]
 apply List.ext_getElem
 ·simp
 intro j h1 h2
 simp at h1
 by_cases hj : k = j
 ·subst hj; simp
 rw [List.getElem_set_ne hj]; simp [hj]
structure LI (w W : World) (A r : Nat) (P : List LS) : Prop where
 gr : Gr w W
 a : W.heap[A]? = some (.cells #[.int .i64 (P.length : Int)] 3)
 t : W.heap[A + 1]? = some (.cells (tkA (tkL P)) 111)
 r2 : W.heap[r]? = some (.cells #[.int .i64 0, .slice none 0 0, .int .i64 0] 52)
 r3 : W.heap[r + 1]? = some (.cells #[.int .i64 0] 3)
 ok : AllR P
theorem LI.kept {w W W' : World} {A r : Nat} {P : List LS} (h : LI w W A r P) (g : Gr w W') (k : ∀ b, b = A ∨ b = A + 1 ∨ b = r ∨ b = r + 1 → W'.heap[b]? = W.heap[b]?) : LI w W' A r P :=
 ⟨g, (k _ (.inl rfl)).trans h.a, (k _ (.inr (.inl rfl))).trans h.t, (k _ (.inr (.inr (.inl rfl)))).trans h.r2, (k _ (.inr (.inr (.inr rfl)))).trans h.r3, h.ok⟩
structure LX (w W : World) (r Z : Nat) (P : List LS) (L : List LS) (x : LS) (vo : Option Addr) (vc : Nat) : Prop where
 e : P = L ++ [x]
 ok : AllR L
 bad : wrongE x L.length (tkL L) ≠ 0
 gr : Gr w W
 r2 : W.heap[r]? = some (.cells #[.int .i64 (wrongE x L.length (tkL L)), .slice vo x.path.length vc, .int .i64 0] 52)
 r3 : W.heap[r + 1]? = some (.cells #[.int .i64 (L.length : Int)] 3)
 own : W.ownsRow 0 3 1 (.slice vo x.path.length vc) x.path.length (ints x.path)
 new : ∀ g, (Value.slice vo x.path.length vc).ownBlock = some g → Z ≤ g
theorem LX.kept {w W W' : World} {r Z : Nat} {P L : List LS} {x : LS} {vo : Option Addr} {vc : Nat} (h : LX w W r Z P L x vo vc) (g : Gr w W') (k : ∀ b, b = r ∨ b = r + 1 ∨ (Z ≤ b ∧ b < W.heap.size) → W'.heap[b]? = W.heap[b]?) : LX w W' r Z P L x vo vc :=
 ⟨h.e, h.ok, h.bad, g, (k _ (.inl rfl)).trans h.r2, (k _ (.inr (.inl rfl))).trans h.r3, own_kp h.own fun b e => k b (.inr (.inr ⟨h.new b e, own_lt h.own b e⟩)), h.new⟩
theorem gr_below {w W W' : World} {B : Nat} (h : Gr w W) (hB : w.heap.size ≤ B) (b : Below B W W') : Gr w W' :=
 h.trans (T := fun k => B ≤ k) (Keeps.ofBelow b) (fun j hj hk => by omega)
attribute [local go_sem] Oper.semAt_some run_store_func
theorem set31 {W : World} {R R' : Nat} {z0 z1 z2 z3 : Value} (u0 u1 u2 u3 : Value) (hR : R' ≠ R) (h2 : W.heap[R]? = some (.cells #[z0, z1, z2] 52)) (h3 : W.heap[R']? = some (.cells #[z3] 3)) :
  ((((W.setCell ⟨R, 0, none⟩ u0).setCell ⟨R, 1, none⟩ u1).setCell ⟨R, 2, none⟩ u2).setCell ⟨R', 0, none⟩ u3).heap[R]? = some (.cells #[u0, u1, u2] 52) ∧
  ((((W.setCell ⟨R, 0, none⟩ u0).setCell ⟨R, 1, none⟩ u1).setCell ⟨R, 2, none⟩ u2).setCell ⟨R', 0, none⟩ u3).heap[R']? = some (.cells #[u3] 3) ∧
  Keeps W ((((W.setCell ⟨R, 0, none⟩ u0).setCell ⟨R, 1, none⟩ u1).setCell ⟨R, 2, none⟩ u2).setCell ⟨R', 0, none⟩ u3) (fun b => b = R ∨ b = R') := by
 have e0 := setc (j := 0) h2 u0
 have e1 := setc (j := 1) e0 u1
 have e2 := setc (j := 2) e1 u2
 have ho : ∀ b, b ≠ R → (((W.setCell ⟨R, 0, none⟩ u0).setCell ⟨R, 1, none⟩ u1).setCell ⟨R, 2, none⟩ u2).heap[b]? = W.heap[b]? := fun b hb => by
  rw [heap_setCell_other _ ⟨R, 2, none⟩ b _ hb, heap_setCell_other _ ⟨R, 1, none⟩ b _ hb, heap_setCell_other _ ⟨R, 0, none⟩ b _ hb]
 have e3 := setc (j := 0) ((ho R' hR).trans h3) u3
 refine ⟨?_, ?_, ?_⟩
 ·rw [heap_setCell_other _ ⟨R', 0, none⟩ R _ (fun e => hR e.symm), e2]; simp
 ·rw [e3]; simp
 exact ((keep1 (keep1 (keep1 (Keeps.refl W _) _) _) _).mono fun _ _ h => .inl h).setCell (p := ⟨R', 0, none⟩) (fun _ => .inr rfl) u3
theorem cell1 {W : World} {B t : Nat} {x : Value} (h : W.heap[B]? = some (.cells #[x] t)) : W.cell? ⟨B, 0, none⟩ = some x := by simp [World.cell?, h]
theorem wpListIn_load_row {F : Fence} {n : Nat} {P : Program} {ops : Array Oper} {rest : List Oper} {o : Oper} {a : Act} {w : World} {Q : Exit → Act → World → Prop} (hgd : o.guard = none) (ty : TypeId) (x : Operand) (ho : o.op = .load ty x)
  (g : Nat) (hx : a.eval x = .pointer (some ⟨g, 0, none⟩)) (t : TypeId) (cs : Array Value) (fr : Nat × Nat) (d : TypeDesc) (hg : w.heap[g]? = some (.cells cs t fr))
  (hu : P.underlying ty = some d) (hd : (match d with | .struct _ | .array _ _ => true | _ => false) = true) (hi : (P.info? ty).map (·.size) = some cs.size)
  (h : wpListIn F n P ops Q rest (a.put o.dst (.agg cs)) w) : wpListIn F n P ops Q (o :: rest) a w := by
 refine wpListIn_plain hgd fun K hK => ?_
 unfold Oper.wpIn
 refine ⟨by simp [Oper.about, ho], ?_⟩
 rw [Oper.semAt_plain F _ _ (by rw [ho]; intro c hc'; cases hc')]
 simp only [execOp, ho, hx, Instr.loadAt, Instr.sureAddr, Sem.run_bind, Sem.run_pure, Result.andThen_ok, run_loadVar_row w g t ty cs fr d hg hu hd hi]
 exact hK _ _ h
theorem wr_tab {m : Nat} {ah : Int} {nR : Bool} {idx i : Int} {tb nl d : Bool} {k : Int} {kd tk : Bool} (h : wr m ah nR idx i tb nl d k kd tk = 0) : tb = true := by
 cases tb with
 | true => rfl
 | false =>
  unfold wr at h
  by_cases a1 : 64 < m
  ·rw [if_pos a1] at h; omega
  rw [if_neg a1] at h
  by_cases a2 : 256 ≤ ah
  ·rw [if_pos a2] at h; omega
  rw [if_neg a2] at h
  by_cases a3 : nR = false
  ·rw [if_pos a3] at h; omega
  rw [if_neg a3] at h
  by_cases a4 : idx ≠ i
  ·rw [if_pos a4] at h; omega
  rw [if_neg a4, if_pos rfl] at h; omega
def LookR (w : World) (E : Int × Int) (N : List LS) (e : Ending) (w' : World) : Prop := Gr w w' ∧
 ((E.1 ≠ 0 ∧ e = .returned (.tuple #[fltV E.1 (.slice none 0 0) E.2, .int .i64 0])) ∨
  (E.1 = 0 ∧ AllR N ∧ e = .returned (.tuple #[fltV 0 (.slice none 0 0) 0, .int .i64 N.length])) ∨
  (E.1 = 0 ∧ ∃ L x vo vc, (L ++ [x]) <+: N ∧ AllR L ∧ wrongE x L.length (tkL L) ≠ 0 ∧ e = .returned (.tuple #[fltV (wrongE x L.length (tkL L)) (.slice vo x.path.length vc) 0, .int .i64 L.length]) ∧
   w'.ownsRow 0 3 1 (.slice vo x.path.length vc) x.path.length (ints x.path) ∧ ∀ g, (Value.slice vo x.path.length vc).ownBlock = some g → w.heap.size ≤ g))
theorem look_walk (S : Nat → Prop) (D : Nat) (fo no : Option Addr) (cf cn : Nat) (fs : List FT) (ns : List (ByteArray × ByteArray)) (w : World) (hT : Tab w) (hr : RowAt S w D fo fs) (hcf : fs.length ≤ cf) (hD : D ≤ big) (hS : ∀ b, S b → b < w.heap.size) (hn : NotesAt w no ns) :
  Calls Tryz.prog 37 #[schV fo no fs.length cf ns.length cn] w fun e w' => LookR w (listsE fs.length ns) (nodes D fs [] false) e w' := by
 have HT : Hid _ := hT
 have HR : Hid _ := hr
 have HS : Hid _ := hS
 have HN : Hid (∀ W, Gr w W → Calls Tryz.prog 50 #[.agg #[.slice fo fs.length cf, .slice no ns.length cn]] W fun e w' => e = .returned (fltV (listsE fs.length ns).1 (.slice none 0 0) (listsE fs.length ns).2) ∧ Gr W w') := fun W g => lists_any fo no fs.length cf cn ns W (hn.gr g)
 unfold schV
 unfold fltV at *
 obtain ⟨E, hE⟩ : ∃ E, E = listsE fs.length ns := ⟨_, rfl⟩
 rw [← hE] at HN ⊢
 clear hE hn hT hr hS
 obtain ⟨W0, hW0⟩ := ex (((w.alloc (.cells #[.slice fo fs.length cf, .slice no ns.length cn] 25)).alloc (.cells #[.int .i64 0, .slice none 0 0, .int .i64 0] 52)).alloc (.cells #[.int .i64 0] 3))
 have hs0 : ((w.alloc (.cells #[.slice fo fs.length cf, .slice no ns.length cn] 25)).alloc (.cells #[.int .i64 0, .slice none 0 0, .int .i64 0] 52)).heap.size = w.heap.size + 2 := by simp
 have HG0 : Hid (Gr w W0) := by rw [← hW0]; exact ((gr_alloc w _).alloc _).alloc _
 have x1 : W0.heap[w.heap.size]? = some (.cells #[.slice fo fs.length cf, .slice no ns.length cn] 25) := by
  rw [← hW0]
  exact (Below.heap_alloc _ _ _ (by simp; omega)).trans ((Below.heap_alloc _ _ _ (by simp)).trans (World.alloc_heap_new w _))
 have x2 : W0.heap[w.heap.size + 1]? = some (.cells #[.int .i64 0, .slice none 0 0, .int .i64 0] 52) := by
  rw [← hW0]
  have := World.alloc_heap_new (w.alloc (.cells #[.slice fo fs.length cf, .slice no ns.length cn] 25)) (.cells #[.int .i64 0, .slice none 0 0, .int .i64 0] 52)
  rw [World.size_alloc] at this
  exact (Below.heap_alloc _ _ _ (by simp)).trans this
 have x3 : W0.heap[w.heap.size + 2]? = some (.cells #[.int .i64 0] 3) := by
  rw [← hW0]
  have := World.alloc_heap_new ((w.alloc (.cells #[.slice fo fs.length cf, .slice no ns.length cn] 25)).alloc (.cells #[.int .i64 0, .slice none 0 0, .int .i64 0] 52)) (.cells #[.int .i64 0] 3)
  rw [hs0] at this
  exact this
 have p0 : W0.cell? ⟨w.heap.size, 0, none⟩ = some (.slice fo fs.length cf) := by simp [World.cell?, x1]
 have p1 : W0.cell? ⟨w.heap.size, 1, none⟩ = some (.slice no ns.length cn) := by simp [World.cell?, x1]
 have HX : Hid _ := And.intro x1 (And.intro x2 x3)
 clear x1 x2 x3 hs0
 refine (callsIn_wide (n := 10)).1 ?_
 refine callsIn_of_wp_marks Tryz.func37 rfl trivial ?_ rfl
 simp only [Tryz.ntmps37, List.size_toArray, List.length_cons, List.length_nil, Nat.reduceAdd, Nat.reduceSub, Array.replicate_succ, Array.replicate_zero, List.push_toArray, List.append_toArray, List.nil_append, List.cons_append]
 refine wpIn_wide.2 ?_
 go_wp2_with fail
 rw [show w.heap.size + 1 + 1 = w.heap.size + 2 from rfl]
 refine Calls.mono (HN.out W0 HG0.out) ?_
 rintro e W1 ⟨rfl, hg1⟩
 obtain ⟨W2, hW2⟩ := ex (W1.alloc (.cells #[.int .i64 E.1, .slice none 0 0, .int .i64 E.2] 52))
 have hg2 : Gr W0 W2 := by rw [← hW2]; exact hg1.alloc _
 have HG2 : Hid (Gr w W2) := HG0.out.tr hg2
 have x1 := (hg2.block _ (lt_of_heap HX.out.1) (fun h => h)).trans HX.out.1
 have x2 := (hg2.block _ (lt_of_heap HX.out.2.1) (fun h => h)).trans HX.out.2.1
 have x3 := (hg2.block _ (lt_of_heap HX.out.2.2) (fun h => h)).trans HX.out.2.2
 have x4 : W2.heap[W1.heap.size]? = some (.cells #[.int .i64 E.1, .slice none 0 0, .int .i64 E.2] 52) := by rw [← hW2]; exact World.alloc_heap_new W1 _
 have hw1 : w.heap.size + 3 ≤ W1.heap.size := by have := lt_of_heap HX.out.2.2; have := hg1.size; omega
 obtain ⟨c1, c2, c3⟩ := cell3 x4
 clear p0 p1 hW0 HN
 replace HX := hidM (And.intro x1 (And.intro x2 x3))
 obtain ⟨E1, E2⟩ := E
 by_cases hE : E1 = 0
 ·subst hE
  have p0 : W2.cell? ⟨w.heap.size, 0, none⟩ = some (.slice fo fs.length cf) := by simp [World.cell?, x1]
  clear x1 x2 x3 x4 hg1 hg2
  obtain ⟨W3, hW3⟩ := ex ((W2.alloc (.cells #[.int .i64 0] 3)).alloc (.cells #[.bool false, .bool false, .bool false, .bool false, .bool false, .bool false, .bool false, .bool false, .bool false, .bool false, .bool false, .bool false, .bool false, .bool false, .bool false, .bool false, .bool false, .bool false, .bool false, .bool false, .bool false, .bool false, .bool false, .bool false, .bool false, .bool false, .bool false, .bool false, .bool false, .bool false, .bool false, .bool false] 111))
  have p1 : W3.cell? ⟨w.heap.size, 0, none⟩ = some (.slice fo fs.length cf) := by rw [← hW3]; exact ((gr_alloc W2 _).alloc _).cell' p0 (fun h => h)
  go_wp2_with (go_at_call 51; refine Hid.out ?_)
  unfold Hid
  refine (each_any _ fo fs.length cf rfl W3).mono ?_
  rintro e W4 ⟨rfl, hW4⟩
  have hz3 : W3.heap.size = W2.heap.size + 2 := by rw [← hW3]; simp
  have hz2 : w.heap.size + 3 ≤ W2.heap.size := by rw [← hW2]; simp; omega
  have hg4 : Gr W2 W4 := by rw [hW4, ← hW3]; exact ((gr_alloc W2 _).alloc _).alloc _
  have hz4 : W4.heap.size = W2.heap.size + 3 := by rw [hW4]; simp [hz3]
  have h0 : LI w W4 W2.heap.size (w.heap.size + 1) [] := by
   refine ⟨HG2.out.tr hg4, ?_, ?_, (hg4.block _ (lt_of_heap HX.out.2.1) (fun h => h)).trans HX.out.2.1, (hg4.block _ (lt_of_heap HX.out.2.2) (fun h => h)).trans HX.out.2.2, AllR.nil⟩
   ·rw [hW4, ← hW3]
    exact (Below.heap_alloc _ _ _ (by simp; omega)).trans ((Below.heap_alloc _ _ _ (by simp)).trans (World.alloc_heap_new W2 _))
   rw [hW4, ← hW3]
   have := World.alloc_heap_new (W2.alloc (.cells #[.int .i64 0] 3)) (.cells #[.bool false, .bool false, .bool false, .bool false, .bool false, .bool false, .bool false, .bool false, .bool false, .bool false, .bool false, .bool false, .bool false, .bool false, .bool false, .bool false, .bool false, .bool false, .bool false, .bool false, .bool false, .bool false, .bool false, .bool false, .bool false, .bool false, .bool false, .bool false, .bool false, .bool false, .bool false, .bool false] 111)
   rw [World.size_alloc] at this
   exact (Below.heap_alloc _ _ _ (by simp)).trans this
  have hv : W4.cell? ⟨W3.heap.size, 0, none⟩ = some (.slice fo fs.length cf) := by rw [hW4]; exact cell_new W3 _ 22
  have hseq := each1_seq (10 - 1) W3.heap.size S D fo cf fs W4 hv (HR.out.kept fun b h => (HG2.out.tr hg4).block b (HS.out b h) id) hcf hD (fun b h => by have := HS.out b h; omega)
  have hSW : ∀ b, S b → b < w.heap.size := HS.out
  have hTW : Tab w := HT.out
  clear hW2 hW3 hW4 hg4 p0 p1 c1 c2 c3 hv HX
  generalize W1.heap.size = X at *
  obtain ⟨A, hA⟩ : ∃ A, A = W2.heap.size := ⟨_, rfl⟩
  rw [← hA] at h0 hz4 hz3 hz2 ⊢
  rw [hz3] at hseq ⊢
  clear hA HG2 hz3
  go_wp2_with fail
  refine (wpIn_wide (n := 10)).1 ?_
  refine rangeX (by decide) (gf := 74) (lb := #[.pointer (some ⟨A + 2, 0, none⟩)]) rfl (enters_of Tryz.func74 (by kernel_rfl) rfl) hseq (fun _ => rfl) (fun b h => by have := hSW b h; omega)
   (fun O pre x A B h k => ⟨h.row.kept fun b hb => k b (.inl hb), h.le, h.ix, own_kp h.way fun g e => k g (.inr (by cases e; exact h.wO)), h.wO, h.deep⟩)
   (fun b => b = A ∨ b = A + 1 ∨ b = w.heap.size + 1 ∨ b = w.heap.size + 2) (fun b h => ⟨by omega, fun hs => by have := hSW b hs; omega⟩)
   (fun pre W => LI w W A (w.heap.size + 1) (pre.map Spot.ls)) (fun pre Y Z h hz hb => h.kept (gr_below h.gr (by omega) hb) fun b hbb => hb.block b (by omega))
   (fun c pre W => c = .ret ∧ ∃ L x vo vc, LX w W (w.heap.size + 1) (A + 3 + 2) (pre.map Spot.ls) L x vo vc)
   (fun c pre Y Z h hk => by
    obtain ⟨h1, L, x, vo, vc, h2⟩ := h
    refine ⟨h1, L, x, vo, vc, h2.kept (h2.gr.trans hk (fun j hj h => by omega)) fun b hb => hk.block b ?_ (fun h => by omega)⟩
    rcases hb with rfl | rfl | hb
    ·exact lt_of_heap h2.r2
    ·exact lt_of_heap h2.r3
    exact hb.2)
   h0
   (fun x a' W => ∃ Bx, W.heap[Bx]? = some (.cells #[.slice x.ao x.list.length x.ca, .slice (some ⟨x.wb, 0, none⟩) x.path.length x.wc, .bool x.inD] 116) ∧ Bx ≠ W4.heap.size + 1 ∧ A + 3 + 2 ≤ Bx ∧
    a' = { tmps := #[.agg #[.slice fo fs.length cf, .slice no ns.length cn], .pointer (some ⟨w.heap.size, 0, none⟩), .pointer (some ⟨w.heap.size + 1, 0, none⟩), .pointer (some ⟨w.heap.size + 2, 0, none⟩), .pointer (some ⟨X, 0, none⟩), .pointer (some ⟨A, 0, none⟩), .pointer (some ⟨A + 1, 0, none⟩), .pointer (some ⟨Bx, 0, none⟩), undef, undef, .agg #[.slice fo fs.length cf, .slice no ns.length cn], .agg #[.int .i64 0, .slice none 0 0, .int .i64 E2], .pointer (some ⟨X, 0, none⟩), .int .i64 0, .bool false, undef, .pointer (some ⟨w.heap.size, 0, none⟩), .slice fo fs.length cf, .func (.func 74) #[] #[.pointer (some ⟨A + 2, 0, none⟩)], .agg #[.slice x.ao x.list.length x.ca, .slice (some ⟨x.wb, 0, none⟩) x.path.length x.wc, .bool x.inD], undef, undef, undef, undef, undef, undef, undef, undef, undef, undef, undef, undef, undef, undef, undef, undef, undef, undef, undef, undef, undef, undef, undef, undef, undef], defers := [] })
   (fun x a' Y Z h hk => by
    obtain ⟨Bx, h1, h2, h3, h4⟩ := h
    exact ⟨Bx, (hk.block Bx (lt_of_heap h1) h2).trans h1, h2, h3, h4⟩)
   ?assign ?body ?done ?stop
  case assign =>
   intro l x W K hz hK
   unfold encS
   gi_wp2
   refine hK _ _ (gr_alloc W _) ⟨W.heap.size, World.alloc_heap_new W _, by omega, by omega, rfl⟩
  case body =>
   rintro l O pre x a' W hi hat ⟨Bx, hbx, -, hBx, rfl⟩ hO hz
   have hSl : ∀ b, S b → b < W.heap.size := fun b h => by have := hSW b h; have := hi.gr.size; omega
   have hTt : Tab W := hTW.gr hi.gr
   have hmap : (pre ++ [x]).map Spot.ls = pre.map Spot.ls ++ [x.ls] := by simp
   rw [show (fun (pre : List Spot) W => LI w W A (w.heap.size + 1) (pre.map Spot.ls)) = fun pre W => LI w W A (w.heap.size + 1) (pre.map Spot.ls) from rfl]
   have hlen := hi.ok.len
   obtain ⟨P, hP⟩ : ∃ P, P = pre.map Spot.ls := ⟨_, rfl⟩
   rw [← hP] at hi hmap hlen
   have hcall := wrong_any x S O (tkL P) P.length W hat hTt hSl
   obtain ⟨er, her⟩ : ∃ er, er = wrongE x.ls P.length (tkL P) := ⟨_, rfl⟩
   rw [← her] at hcall
   have HI := hidM hi
   obtain ⟨t, ht⟩ : ∃ t, t = tkL P := ⟨_, rfl⟩
   rw [← ht] at hcall
   have hiT : W.heap[A + 1]? = some (.cells (tkA t) 111) := by rw [ht]; exact hi.t
   obtain ⟨n, hn⟩ : ∃ n, n = P.length := ⟨_, rfl⟩
   rw [← hn] at hcall hlen
   have q0 : W.cell? ⟨A, 0, none⟩ = some (.int .i64 (n : Int)) := by rw [hn]; exact cell1 hi.a
   obtain ⟨b0, b1, b2⟩ := cell3 hbx
   have hinf : (Tryz.prog.info? 111).map (·.size) = some (tkA t).size := by kernel_rfl
   have HL := hidM (And.intro hiT hinf)
   clear hinf hiT
   have HC : Hid (Calls Tryz.prog 52 #[.agg #[.slice x.ao x.list.length x.ca, .slice (some ⟨x.wb, 0, none⟩) x.path.length x.wc, .bool x.inD], .int .i64 (n : Int), .agg (tkA t)] W fun e w' => e = .returned (.int .i64 er) ∧ Gr W w') := hcall
   have HQ : Hid (P = pre.map Spot.ls ∧ er = wrongE x.ls P.length (tkL P) ∧ t = tkL P ∧ n = P.length) := ⟨hP, her, ht, hn⟩
   have HM := hidM hmap
   have HB := hidM (And.intro hbx (And.intro hat hSl))
   clear hcall hi hbx hat hSl hTt hmap hP her ht hn hseq h0
   gi_wp2_with (refine wpListIn_load_row rfl 111 (.tmp 6) rfl (A + 1) rfl 111 (tkA t) (0, 0) _ HL.out.1 Tryz.underlying111 rfl HL.out.2 ?_)
   refine ⟨trivial, CallsIn.mono (CallsIn.inRound l (callsIn_wide.2 HC.out)) ?_⟩
   rintro e v1 ⟨rfl, hg1⟩
   clear HL q0 b0 b1 b2 HC
   obtain ⟨f, fb, fo', fi, fm, ao', ca', hf, -, -, -, -, -⟩ := HB.out.2.1.f
   have hbx1 := (hg1.block _ (lt_of_heap HB.out.1) (fun h => h)).trans HB.out.1
   obtain ⟨b0, b1, b2⟩ := cell3 hbx1
   have ha1 := (hg1.block _ (lt_of_heap HI.out.a) (fun h => h)).trans HI.out.a
   have ht1 := (hg1.block _ (lt_of_heap HI.out.t) (fun h => h)).trans HI.out.t
   have hr2 := (hg1.block _ (lt_of_heap HI.out.r2) (fun h => h)).trans HI.out.r2
   have hr3 := (hg1.block _ (lt_of_heap HI.out.r3) (fun h => h)).trans HI.out.r3
   by_cases h0 : er = 0
   ·have hfld := field_any x f fb fo' fi fm ao' ca' v1 (hf.gr hg1)
    have HFL : Hid (Calls Tryz.prog 54 #[.agg #[.slice x.ao x.list.length x.ca, .slice (some ⟨x.wb, 0, none⟩) x.path.length x.wc, .bool x.inD]] v1 fun e w' => e = .returned (.agg #[.string f.name, .bool f.nul, .int .i64 f.kind, .int .i64 f.width, .int .i64 f.id, .int .i64 f.index, .slice ao' f.kids.length ca']) ∧ Gr v1 w') := hfld
    have HG1 := hidM hg1
    have H1 := hidM (And.intro ha1 (And.intro ht1 (And.intro hr2 hr3)))
    have HF := hidM hf
    clear hfld hf hg1 hbx1 ha1 ht1 hr2 hr3
    gi_wp2_with fail
    refine ⟨trivial, CallsIn.mono (CallsIn.inRound l (callsIn_wide.2 HFL.out)) ?_⟩
    rintro e v2 ⟨rfl, hg2⟩
    clear b0 b1 b2 HFL
    obtain ⟨v3, hv3⟩ := ex (v2.alloc (.cells #[.int .i64 f.kind, .int .i64 f.width, .int .i64 f.id, .int .i64 f.index, .slice ao' f.kids.length ca'] 56))
    have hg3 : Gr v1 v3 := by rw [← hv3]; exact hg2.alloc _
    have hbt : v3.heap[v2.heap.size]? = some (.cells #[.int .i64 f.kind, .int .i64 f.width, .int .i64 f.id, .int .i64 f.index, .slice ao' f.kids.length ca'] 56) := by rw [← hv3]; exact World.alloc_heap_new v2 _
    have c0 : v3.cell? ⟨v2.heap.size, 0, none⟩ = some (.int .i64 f.kind) := by simp [World.cell?, hbt]
    have c2 : v3.cell? ⟨v2.heap.size, 2, none⟩ = some (.int .i64 f.id) := by simp [World.cell?, hbt]
    have ha := (hg3.block _ (lt_of_heap H1.out.1) (fun h => h)).trans H1.out.1
    have htk := (hg3.block _ (lt_of_heap H1.out.2.1) (fun h => h)).trans H1.out.2.1
    have hr2 := (hg3.block _ (lt_of_heap H1.out.2.2.1) (fun h => h)).trans H1.out.2.2.1
    have hr3 := (hg3.block _ (lt_of_heap H1.out.2.2.2) (fun h => h)).trans H1.out.2.2.2
    have hfi : x.ls.fld = f := by
     obtain ⟨p, hp⟩ : ∃ p, x.path = p ++ [fi] := by
      obtain ⟨f', _, _, i', m', _, _, hf', _, _, _, p, hp⟩ := HB.out.2.1.f
      have e1 := HF.out.len; have e2 := HF.out.wc; have e3 := hf'.len; have e4 := hf'.wc
      have : m' = fm := by omega
      subst this
      rw [e2] at e4
      simp at e4
      have e5 : fi = i' := by omega
      exact ⟨p, by rw [hp, e5]⟩
     show (x.list[x.path.getLastD 0]?).getD default = f
     rw [hp]; simp [HF.out.fe]
    obtain ⟨q1, q2, q3, q4⟩ := HQ.out
    have hG : Gr w v3 := (HI.out.gr.tr HG1.out).tr hg3
    have hKW : Gr W v3 := HG1.out.tr hg3
    have hok : AllR (P ++ [x.ls]) := HI.out.ok.snoc (by rw [← q2]; exact h0)
    have d1 : v3.cell? ⟨A, 0, none⟩ = some (.int .i64 (n : Int)) := by rw [q4]; exact cell1 ha
    have d2 := frz ha 0
    have HV := hidM (And.intro ha (And.intro htk (And.intro hr2 (And.intro hr3 (And.intro hG (And.intro hKW hok))))))
    have HFI := hidM hfi
    have HTB : Hid (f.kind = 19 → ∃ k : Nat, k < 32 ∧ f.id = k) := fun hk => by
     have h1 : wrongE x.ls P.length (tkL P) = 0 := by rw [← q2]; exact h0
     have h2 : tableB f = true := by
      unfold wrongE at h1
      rw [hfi] at h1
      exact wr_tab h1
     have := (tab_kids h2).1 hk
     exact ⟨f.id.toNat, by omega, by omega⟩
    have hend : ∀ W5 t', W5.heap[A]? = some (.cells #[.int .i64 ((n : Int) + 1)] 3) → W5.heap[A + 1]? = some (.cells (tkA t') 111) → (∀ m, t' m = tkL (P ++ [x.ls]) m) → Keeps v3 W5 (fun b => b = A ∨ b = A + 1) → Keeps W W5 (fun b => b = A ∨ b = A + 1 ∨ b = w.heap.size + 1 ∨ b = w.heap.size + 2) ∧ LI w W5 A (w.heap.size + 1) ((pre ++ [x]).map Spot.ls) := by
     intro W5 t' h1 h2 h3 hk
     refine ⟨(hKW.mono fun _ _ h => h.elim).trans hk (fun j hj h => by omega), ?_⟩
     rw [HM.out]
     refine ⟨hG.trans hk (fun j hj h => by omega), ?_, ?_, (hk.block _ (lt_of_heap hr2) (fun h => by omega)).trans hr2, (hk.block _ (lt_of_heap hr3) (fun h => by omega)).trans hr3, hok⟩
     ·rw [h1, q4]; simp
     rw [h2, show t' = tkL (P ++ [x.ls]) from funext h3]
    have HEND := hidM hend
    clear hend hG hKW hok hr2 hr3 ha htk hbt hg2 hg3 hfi q1 q2 q3 q4
    by_cases h19 : f.kind = 19
    ·obtain ⟨k, hk32, hfk⟩ := HTB.out h19
     have g1 : v3.cell? ⟨A + 1, k, none⟩ = some (.bool (t k)) := by rw [cell_of_row _ _ k _ _ _ HV.out.2.1, HQ.out.2.2.1]; exact tkA_get _ k hk32
     have g2 : v3.frozen? ⟨A + 1, k, none⟩ = false := frz HV.out.2.1 k
     have g3 : (v3.setCell ⟨A + 1, k, none⟩ (.bool true)).cell? ⟨A, 0, none⟩ = some (.int .i64 (n : Int)) := by rw [World.cell?_of_block (w := v3) (heap_setCell_other v3 ⟨A + 1, k, none⟩ A _ (by simp))]; exact d1
     have g4 : (v3.setCell ⟨A + 1, k, none⟩ (.bool true)).frozen? ⟨A, 0, none⟩ = false := by rw [World.frozen?_setCell]; exact d2
     rw [h19] at c0
     rw [hfk] at c2
     have HFK := hidM (And.intro h19 hfk)
     clear h19 hfk HTB d1
     rw [HFK.out.1, HFK.out.2] at hv3
     have hfl : ∀ w, (Instr.field 58 (.agg #[.string f.name, .bool f.nul, .int .i64 19, .int .i64 f.width, .int .i64 (k : Int), .int .i64 f.index, .slice ao' f.kids.length ca']) 2).run Tryz.prog w = .ok (.agg #[.int .i64 19, .int .i64 f.width, .int .i64 (k : Int), .int .i64 f.index, .slice ao' f.kids.length ca']) w := fun w => by kernel_rfl
     rw [HFK.out.1, HFK.out.2]
     gi_wp2
     have e1 := setc (j := k) HV.out.2.1 (.bool true)
     rw [tkA_set _ k hk32] at e1
     have e2 := setc (j := 0) ((heap_setCell_other v3 ⟨A + 1, k, none⟩ A (.bool true) (by simp)).trans HV.out.1) (.int .i64 ((n : Int) + 1))
     refine HEND.out _ _ (by rw [e2]; simp) ((heap_setCell_other _ ⟨A, 0, none⟩ (A + 1) _ (by simp)).trans e1) (fun m => ?_) (((Keeps.refl v3 _).setCell (p := ⟨A + 1, k, none⟩) (fun _ => .inr rfl) _).setCell (p := ⟨A, 0, none⟩) (fun _ => .inl rfl) _)
     rw [tkL_snoc, HFI.out, HFK.out.1, HFK.out.2]; simp
    have h19' := beqF h19
    have hfl : ∀ w, (Instr.field 58 (.agg #[.string f.name, .bool f.nul, .int .i64 f.kind, .int .i64 f.width, .int .i64 f.id, .int .i64 f.index, .slice ao' f.kids.length ca']) 2).run Tryz.prog w = .ok (.agg #[.int .i64 f.kind, .int .i64 f.width, .int .i64 f.id, .int .i64 f.index, .slice ao' f.kids.length ca']) w := fun w => by kernel_rfl
    have HF19 := hidM h19
    clear HTB h19
    gi_wp2
    have e2 := setc (j := 0) HV.out.1 (.int .i64 ((n : Int) + 1))
    refine HEND.out _ _ (by rw [e2]; simp) ((heap_setCell_other _ ⟨A, 0, none⟩ (A + 1) _ (by simp)).trans HV.out.2.1) (fun m => ?_) ((Keeps.refl v3 _).setCell (p := ⟨A, 0, none⟩) (fun _ => .inl rfl) _)
    rw [tkL_snoc, HFI.out]; simp [HF19.out]
   have hne : (er != 0) = true := by simpa using h0
   have hpl : x.path.length ≤ 1000000000000 := by have := HB.out.2.1.deep; unfold big at this; exact this
   have HCL : Hid (∀ W, Gr v1 W → Calls Tryz.prog 53 #[.slice (some ⟨x.wb, 0, none⟩) x.path.length x.wc] W fun e w' => ∃ vo vc, e = .returned (.slice vo x.path.length vc) ∧ w'.ownsRow 0 3 1 (.slice vo x.path.length vc) x.path.length (ints x.path) ∧ Gr W w' ∧ (∀ g, (Value.slice vo x.path.length vc).ownBlock = some g → W.heap.size ≤ g)) := fun W g =>
    clone_any x.wb x.path.length x.wc x.path rfl HB.out.2.1.deep W (own_kp HB.out.2.1.way fun g' e => (hg1.tr g).block g' (own_lt HB.out.2.1.way g' e) id)
   have d1 : v1.cell? ⟨A, 0, none⟩ = some (.int .i64 (n : Int)) := by rw [HQ.out.2.2.2]; exact cell1 ha1
   have HF2 : Hid (∀ W, Gr v1 W → W.cell? ⟨A, 0, none⟩ = some (.int .i64 (n : Int)) ∧ W.heap[w.heap.size + 1]? = some (.cells #[.int .i64 0, .slice none 0 0, .int .i64 0] 52) ∧ W.heap[w.heap.size + 2]? = some (.cells #[.int .i64 0] 3)) := fun W g =>
    ⟨g.cell' d1 (fun h => h), (g.block _ (lt_of_heap hr2) (fun h => h)).trans hr2, (g.block _ (lt_of_heap hr3) (fun h => h)).trans hr3⟩
   have HG1 := hidM hg1
   have HEX : Hid (∀ v2 vo vc, Gr v1.drew v2 → v2.ownsRow 0 3 1 (.slice vo x.path.length vc) x.path.length (ints x.path) → (∀ g, (Value.slice vo x.path.length vc).ownBlock = some g → v1.drew.heap.size ≤ g) →
     Keeps W ((((v2.setCell ⟨w.heap.size + 1, 0, none⟩ (.int .i64 er)).setCell ⟨w.heap.size + 1, 1, none⟩ (.slice vo x.path.length vc)).setCell ⟨w.heap.size + 1, 2, none⟩ (.int .i64 0)).setCell ⟨w.heap.size + 2, 0, none⟩ (.int .i64 (n : Int))) (fun b => b = A ∨ b = A + 1 ∨ b = w.heap.size + 1 ∨ b = w.heap.size + 2) ∧
     (∃ L x' vo' vc', LX w ((((v2.setCell ⟨w.heap.size + 1, 0, none⟩ (.int .i64 er)).setCell ⟨w.heap.size + 1, 1, none⟩ (.slice vo x.path.length vc)).setCell ⟨w.heap.size + 1, 2, none⟩ (.int .i64 0)).setCell ⟨w.heap.size + 2, 0, none⟩ (.int .i64 (n : Int))) (w.heap.size + 1) (A + 3 + 2) ((pre ++ [x]).map Spot.ls) L x' vo' vc')) := by
    intro v2 vo vc hg2 ho hnew
    have hg12 : Gr v1 v2 := (gr_drew).tr hg2
    obtain ⟨-, z2, z3⟩ := HF2.out v2 hg12
    obtain ⟨e2, e3, k5⟩ := set31 (.int .i64 er) (.slice vo x.path.length vc) (.int .i64 0) (.int .i64 (n : Int)) (show w.heap.size + 2 ≠ w.heap.size + 1 by omega) z2 z3
    have hWv : Gr W v2 := hg1.tr hg12
    obtain ⟨q1, q2, q3, q4⟩ := HQ.out
    have hnz : A + 3 + 2 ≤ v1.heap.size := by have := hg1.size; have h9 := hz; rw [hz4] at h9; omega
    refine ⟨(hWv.mono fun _ _ h => h.elim).trans k5 (fun j hj h => by omega), P, x.ls, vo, vc, HM.out, HI.out.ok, by rw [← q2]; exact h0, (HI.out.gr.tr hWv).trans k5 (fun j hj h => by omega), by rw [← q2]; exact e2, by rw [← q4]; exact e3, own_kp ho fun g e => k5.block g (own_lt ho g e) (fun h => by have h8 : v1.heap.size ≤ g := hnew g e; omega), fun g e => by have h8 : v1.heap.size ≤ g := hnew g e; omega⟩
   have hmix : Tryz.prog.follows .mixedOrders = true := by kernel_rfl
   clear hbx1 ha1 ht1 hr2 hr3 hf
   gi_wp2_with fail
   gi_region_with_o (refine ⟨trivial, ?_⟩; gi_at_call 53; refine CallsIn.mono (CallsIn.inRound l (callsIn_wide.2 (HCL.out _ (by first | exact Keeps.refl _ _ | exact gr_drew)))) ?_; rintro e v2 ⟨vo, vc, rfl, ho, hg2, hnew⟩; obtain ⟨z1, z2, z3⟩ := HF2.out v2 (by first | exact hg2 | exact (gr_drew).tr hg2); obtain ⟨y0, y1, y2⟩ := cell3 z2; have y3 := frz z2 0; have y4 := frz z2 1; have y5 := frz z2 2; have y6 := cell1 z3; have y7 := frz z3 0; have HZ := hidM (And.intro z2 z3); have HO := hidM ho; have HG2 := hidM hg2; have HNW := hidM hnew; clear z2 z3 ho hg2 hnew)
   all_goals
    gi_wp2
    have h := HEX.out _ _ _ HG2.out HO.out HNW.out
    exact ⟨h.1, rfl, h.2⟩
  case done =>
   rintro xs W hx hi hz hd
   rw [hz4] at hz hd ⊢
   have hA0 : W.cell? ⟨A, 0, none⟩ = some (.int .i64 ((xs.map Spot.ls).length : Int)) := by simp [World.cell?, hi.a]
   obtain ⟨y0, y1, y2⟩ := cell3 hi.r2
   have y3 := frz hi.r2 0
   have y4 := frz hi.r2 1
   have y5 := frz hi.r2 2
   have y6 : W.cell? ⟨w.heap.size + 2, 0, none⟩ = some (.int .i64 0) := by simp [World.cell?, show W.heap[w.heap.size + 2]? = _ from hi.r3]
   have y7 : W.frozen? ⟨w.heap.size + 2, 0, none⟩ = false := frz hi.r3 0
   have HI := hidM hi
   have HD := hidM hd
   rw [hx] at hA0 HI
   clear hi hd hx
   go_wp2_with fail
   go_region
   obtain ⟨e2, e3, k5⟩ := set31 (.int .i64 0) (.slice none 0 0) (.int .i64 0) (.int .i64 ((nodes D fs [] false).length : Int)) (show w.heap.size + 2 ≠ w.heap.size + 1 by omega) HI.out.r2 HI.out.r3
   generalize (((W.setCell ⟨w.heap.size + 1, 0, none⟩ (.int .i64 0)).setCell ⟨w.heap.size + 1, 1, none⟩ (.slice none 0 0)).setCell ⟨w.heap.size + 1, 2, none⟩ (.int .i64 0)).setCell ⟨w.heap.size + 2, 0, none⟩ (.int .i64 ((nodes D fs [] false).length : Int)) = W5 at *
   have hd5 : W5.drew.heap[(A + 3)]? = some (.deferred (some [])) := (k5.block _ (lt_of_heap HD.out) (fun h => by omega)).trans HD.out
   have HG5 : Hid (Gr w (W5.drew.putObj (A + 3) (.deferred none))) := ((HI.out.gr.trans k5 (fun j hj h => by omega)).drew).trans (T := fun k => k = (A + 3)) (keeps_put _ _ _) (fun j hj h => by have := HI.out.gr.size; omega)
   have t0 : (W5.drew.putObj (A + 3) (.deferred none)).heap[w.heap.size + 1]? = _ := (World.putObj_heap_other (by omega)).trans e2
   have t1 : (W5.drew.putObj (A + 3) (.deferred none)).heap[w.heap.size + 2]? = _ := (World.putObj_heap_other (by omega)).trans e3
   obtain ⟨v0, v1, v2⟩ := cell3 t0
   have v3 := cell1 t1
   have HOK := hidM HI.out.ok
   clear k5 e2 e3 y0 y1 y2 y3 y4 y5 y6 y7 hA0 HI t0 t1
   go_wp2_with fail
   refine ⟨by simp, .inl ⟨_, _, rfl, run_takeDeferred hd5, ?_⟩⟩
   refine ⟨.tuple #[.agg #[.int .i64 0, .slice none 0 0, .int .i64 0], .int .i64 ((nodes D fs [] false).length : Int)], ?_, HG5.out, .inr (.inl ⟨rfl, HOK.out, rfl⟩)⟩
   simp [results, Tryz.f37, go_sem, v0, v1, v2, v3]
  case stop =>
   rintro c pre W hp ⟨rfl, L, x, vo, vc, hX⟩ hz hd
   rw [hz4] at hz hd ⊢
   have HG5 : Hid (Gr w (W.putObj (A + 3) (.deferred none))) := hX.gr.trans (T := fun k => k = (A + 3)) (keeps_put _ _ _) (fun j hj h => by omega)
   have t0 : (W.putObj (A + 3) (.deferred none)).heap[w.heap.size + 1]? = _ := (World.putObj_heap_other (by omega)).trans hX.r2
   have t1 : (W.putObj (A + 3) (.deferred none)).heap[w.heap.size + 2]? = _ := (World.putObj_heap_other (by omega)).trans hX.r3
   have HO : Hid ((W.putObj (A + 3) (.deferred none)).ownsRow 0 3 1 (.slice vo x.path.length vc) x.path.length (ints x.path)) := own_kp hX.own fun g e => World.putObj_heap_other (by have := hX.new g e; omega)
   obtain ⟨v0, v1, v2⟩ := cell3 t0
   have v3 := cell1 t1
   have HX := hidM hX
   have HP := hidM hp
   have hd5 := hd
   clear hX hp t0 t1 hd
   gi_wp2
   refine ⟨by simp, .inl ⟨_, _, rfl, run_takeDeferred hd5, ?_⟩⟩
   refine ⟨.tuple #[.agg #[.int .i64 (wrongE x L.length (tkL L)), .slice vo x.path.length vc, .int .i64 0], .int .i64 (L.length : Int)], ?_, HG5.out, .inr (.inr ⟨rfl, L, x, vo, vc, by rw [← HX.out.e]; exact HP.out.2, HX.out.ok, HX.out.bad, rfl, HO.out, fun g e => by have := HX.out.new g e; omega⟩)⟩
   simp [results, Tryz.f37, go_sem, v0, v1, v2, v3]
 have hE' : (E1 != 0) = true := by simpa using hE
 obtain ⟨y0, y1, y2⟩ := cell3 x2
 have y3 := frz x2 0
 have y4 := frz x2 1
 have y5 := frz x2 2
 have y6 : W2.cell? ⟨w.heap.size + 2, 0, none⟩ = some (.int .i64 0) := by simp [World.cell?, x3]
 have y7 := frz x3 0
 clear x1 x2 x3 x4 hg1 hg2
 have HXX := HX
 go_wp2_with fail
 obtain ⟨e2, e3, k5⟩ := set31 (.int .i64 E1) (.slice none 0 0) (.int .i64 E2) (.int .i64 0) (show w.heap.size + 2 ≠ w.heap.size + 1 by omega) HXX.out.2.1 HXX.out.2.2
 generalize (((W2.setCell ⟨w.heap.size + 1, 0, none⟩ (.int .i64 E1)).setCell ⟨w.heap.size + 1, 1, none⟩ (.slice none 0 0)).setCell ⟨w.heap.size + 1, 2, none⟩ (.int .i64 E2)).setCell ⟨w.heap.size + 2, 0, none⟩ (.int .i64 0) = W5 at *
 have HG5 : Hid (Gr w W5) := HG2.out.trans k5 (fun j hj h => by omega)
 obtain ⟨v0, v1, v2⟩ := cell3 e2
 have v3 := cell1 e3
 refine ⟨.tuple #[.agg #[.int .i64 E1, .slice none 0 0, .int .i64 E2], .int .i64 0], ?_, HG5.out, .inl ⟨hE, rfl⟩⟩
 simp [results, Tryz.f37, go_sem, v0, v1, v2, v3]
attribute [local go_sem] run_store_func
theorem AllR.pre {N L : List LS} {x : LS} (h : AllR N) (hp : L ++ [x] <+: N) : wrongE x L.length (tkL L) = 0 := by
 obtain ⟨r, rfl⟩ := hp
 have := h L.length (by simp)
 simpa using this
theorem first_eq {N L L' : List LS} {x x' : LS} (h : L ++ [x] <+: N) (h' : L' ++ [x'] <+: N) (a : AllR L) (a' : AllR L') (b : wrongE x L.length (tkL L) ≠ 0) (b' : wrongE x' L'.length (tkL L') ≠ 0) : L = L' ∧ x = x' := by
 have key : ∀ {L L' : List LS} {x x' : LS}, L ++ [x] <+: N → L' ++ [x'] <+: N → AllR L' → wrongE x L.length (tkL L) ≠ 0 → ¬ L.length < L'.length := fun {L L' x x'} h h' a' b hlt => by
  have h1 : L ++ [x] <+: L' := List.prefix_of_prefix_length_le h ((List.prefix_append L' [x']).trans h') (by simp; omega)
  exact b (a'.pre h1)
 have hl : L.length = L'.length := by
  have h1 := key h h' a' b
  have h2 := key h' h a b'
  omega
 have := List.prefix_of_prefix_length_le h h' (by simp [hl])
 have e := this.eq_of_length (by simp [hl])
 have := List.append_inj e hl
 exact ⟨this.1, by simpa using this.2⟩
theorem cell7 {W : World} {B t : Nat} {x0 x1 x2 x3 x4 x5 x6 : Value} (h : W.heap[B]? = some (.cells #[x0, x1, x2, x3, x4, x5, x6] t)) : W.cell? ⟨B, 0, none⟩ = some x0 ∧ W.cell? ⟨B, 0 + 1, none⟩ = some x1 ∧ W.cell? ⟨B, 0 + 2, none⟩ = some x2 ∧ W.cell? ⟨B, 0 + 3, none⟩ = some x3 ∧ W.cell? ⟨B, 0 + 4, none⟩ = some x4 ∧ W.cell? ⟨B, 0 + 5, none⟩ = some x5 ∧ W.cell? ⟨B, 0 + 6, none⟩ = some x6 := by simp [World.cell?, h]
theorem alone_any (f0 : ByteArray) (f1 : Bool) (f2 f3 f4 f5 : Int) (ao : Option Addr) (f6 ca : Nat) (w : World) :
  Calls Tryz.prog 122 #[.agg #[.string f0, .bool f1, .int .i64 f2, .int .i64 f3, .int .i64 f4, .int .i64 f5, .slice ao f6 ca]] w fun e w' => ∃ g, e = .returned (.agg #[.slice (some ⟨g, 0, none⟩) 1 1, .slice none 0 0]) ∧ Gr w w' ∧ w.heap.size ≤ g ∧ w'.heap[g]? = some (.cells #[.string f0, .bool f1, .int .i64 f2, .int .i64 f3, .int .i64 f4, .int .i64 f5, .slice ao f6 ca] 58) := by
 go_enter Tryz.func122, Tryz.ntmps122
 go_wp2
 obtain ⟨A, hA⟩ : ∃ A, A = w.alloc (.cells #[.string f0, .bool f1, .int .i64 f2, .int .i64 f3, .int .i64 f4, .int .i64 f5, .slice ao f6 ca] 58) := ⟨_, rfl⟩
 have hsA : A.heap.size = w.heap.size + 1 := by rw [hA]; simp
 rw [← hA]
 have x1 : ((A.alloc (.cells #[.slice (some ⟨w.heap.size + 1 + 1, 0, none⟩) 1 1, .slice none 0 0] 25)).alloc (.cells #[.string f0, .bool f1, .int .i64 f2, .int .i64 f3, .int .i64 f4, .int .i64 f5, .slice ao f6 ca] 58)).heap[w.heap.size + 1]? = some (.cells #[.slice (some ⟨w.heap.size + 1 + 1, 0, none⟩) 1 1, .slice none 0 0] 25) := by
  have := World.alloc_heap_new A (.cells #[.slice (some ⟨w.heap.size + 1 + 1, 0, none⟩) 1 1, .slice none 0 0] 25)
  rw [hsA] at this
  exact (Below.heap_alloc _ _ _ (by simp [hsA])).trans this
 have x2 : ((A.alloc (.cells #[.slice (some ⟨w.heap.size + 1 + 1, 0, none⟩) 1 1, .slice none 0 0] 25)).alloc (.cells #[.string f0, .bool f1, .int .i64 f2, .int .i64 f3, .int .i64 f4, .int .i64 f5, .slice ao f6 ca] 58)).heap[w.heap.size + 1 + 1]? = some (.cells #[.string f0, .bool f1, .int .i64 f2, .int .i64 f3, .int .i64 f4, .int .i64 f5, .slice ao f6 ca] 58) := by
  have := World.alloc_heap_new (A.alloc (.cells #[.slice (some ⟨w.heap.size + 1 + 1, 0, none⟩) 1 1, .slice none 0 0] 25)) (.cells #[.string f0, .bool f1, .int .i64 f2, .int .i64 f3, .int .i64 f4, .int .i64 f5, .slice ao f6 ca] 58)
  rw [World.size_alloc, hsA] at this
  exact this
 have hg : Gr w ((A.alloc (.cells #[.slice (some ⟨w.heap.size + 1 + 1, 0, none⟩) 1 1, .slice none 0 0] 25)).alloc (.cells #[.string f0, .bool f1, .int .i64 f2, .int .i64 f3, .int .i64 f4, .int .i64 f5, .slice ao f6 ca] 58)) := by rw [hA]; exact ((gr_alloc w _).alloc _).alloc _
 generalize ((A.alloc (.cells #[.slice (some ⟨w.heap.size + 1 + 1, 0, none⟩) 1 1, .slice none 0 0] 25)).alloc (.cells #[.string f0, .bool f1, .int .i64 f2, .int .i64 f3, .int .i64 f4, .int .i64 f5, .slice ao f6 ca] 58)) = W5 at *
 have v0 : W5.cell? ⟨w.heap.size + 1, 0, none⟩ = some (.slice (some ⟨w.heap.size + 1 + 1, 0, none⟩) 1 1) := by simp [World.cell?, x1]
 have v1 : W5.cell? ⟨w.heap.size + 1, 1, none⟩ = some (.slice none 0 0) := by simp [World.cell?, x1]
 refine bodyPost_ret (v := .agg #[.slice (some ⟨w.heap.size + 1 + 1, 0, none⟩) 1 1, .slice none 0 0]) ?_ rfl ⟨_, rfl, hg, by omega, x2⟩
 simp [results, Tryz.f122, go_sem, v0, v1]
theorem row_alone {S : Nat → Prop} {W : World} {d g : Nat} {f : FT} {ao : Option Addr} {ca : Nat} (hg : W.heap[g]? = some (.cells #[.string f.name, .bool f.nul, .int .i64 f.kind, .int .i64 f.width, .int .i64 f.id, .int .i64 f.index, .slice ao f.kids.length ca] 58)) (hr : RowAt S W d ao f.kids) (hca : f.kids.length ≤ ca) :
  RowAt (fun b => S b ∨ b = g) W (d + 1) (some ⟨g, 0, none⟩) [f] := by
 refine ⟨by simp [big], fun _ => ⟨g, 0, rfl, .inr rfl, fun i hi => ?_⟩⟩
 obtain rfl : i = 0 := by simp at hi; omega
 obtain ⟨v0, v1, v2, v3, v4, v5, v6⟩ := cell7 hg
 exact ⟨ao, ca, ⟨v0, v1, v2, v3, v4, v5, v6⟩, hca, hr.mono fun b h => .inl h⟩
theorem AllR.next {N : List LS} {j : Nat} (hj : j < N.length) (h : AllR (N.take j)) (hz : wrongE N[j] j (tkL (N.take j)) = 0) : AllR (N.take (j + 1)) := by
 rw [List.take_succ_eq_append_getElem hj]
 exact h.snoc (by rw [List.length_take, Nat.min_eq_left (by omega)]; exact hz)
theorem row_ne_box {W : World} {t n B : Nat} {v : Value} {xs : List Value} {c : Array Value} (h : W.ownsRow 0 3 1 v n xs) (hB : W.heap[B]? = some (.cells c t)) (ht : t ≠ 3) : v.ownBlock ≠ some B := fun e => by
 rcases h.2 with ⟨rfl, _⟩ | ⟨g, cap, cur, rfl, _, hg, _⟩
 ·simp [Value.ownBlock] at e
 simp [Value.ownBlock] at e
 subst e
 rw [hg] at hB
 simp at hB
 exact ht hB.2.symm
def FaultIs (E : Int × Int) (N : List LS) (er : Int) (p : List Nat) (k : Int) : Prop :=
 (E.1 ≠ 0 ∧ er = E.1 ∧ p = [] ∧ k = E.2) ∨ (E.1 = 0 ∧ AllR N ∧ er = 0 ∧ p = [] ∧ k = 0) ∨
 (E.1 = 0 ∧ ∃ L x, (L ++ [x]) <+: N ∧ AllR L ∧ wrongE x L.length (tkL L) ≠ 0 ∧ er = wrongE x L.length (tkL L) ∧ p = x.path ∧ k = 0)
theorem FaultIs.one {E : Int × Int} {N : List LS} {er er' : Int} {p p' : List Nat} {k k' : Int} (h : FaultIs E N er p k) (h' : FaultIs E N er' p' k') : er = er' ∧ p = p' ∧ k = k' := by
 rcases h with ⟨a, rfl, rfl, rfl⟩ | ⟨a, b, rfl, rfl, rfl⟩ | ⟨a, L, x, h1, h2, h3, rfl, rfl, rfl⟩ <;> rcases h' with ⟨a', rfl, rfl, rfl⟩ | ⟨a', b', rfl, rfl, rfl⟩ | ⟨a', L', x', h1', h2', h3', rfl, rfl, rfl⟩
 ·exact ⟨rfl, rfl, rfl⟩
 ·exact absurd a' a
 ·exact absurd a' a
 ·exact absurd a a'
 ·exact ⟨rfl, rfl, rfl⟩
 ·exact absurd (b.pre h1') h3'
 ·exact absurd a a'
 ·exact absurd (b'.pre h1) h3
 obtain ⟨rfl, rfl⟩ := first_eq h1 h1' h2 h2' h3 h3'
 exact ⟨rfl, rfl, rfl⟩
theorem check_walk2 (fo no : Option Addr) (nf cf nn cn : Nat) (Q : Int → Option Addr → Nat → Nat → Int → World → Prop) (hQ : ∀ er vo vn vc tt A B b c, Q er vo vn vc tt A → A.heap[b]? = some (.cells c 52) → Keeps A B (fun k => k = b) → Q er vo vn vc tt B) (w : World)
  (hl : ∀ W, Gr w W → Calls Tryz.prog 37 #[.agg #[.slice fo nf cf, .slice no nn cn]] W fun e w' => ∃ er vo vn vc tt k, e = .returned (.tuple #[.agg #[.int .i64 er, .slice vo vn vc, .int .i64 tt], .int .i64 k]) ∧ Gr W w' ∧ Q er vo vn vc tt w') :
  ∀ W, Gr w W → Calls Tryz.prog 21 #[.agg #[.slice fo nf cf, .slice no nn cn]] W fun e w' => ∃ er vo vn vc tt, e = .returned (.agg #[.int .i64 er, .slice vo vn vc, .int .i64 tt]) ∧ Gr W w' ∧ Q er vo vn vc tt w' := by
 intro W g
 have HL : Hid (∀ W', Gr W W' → Calls Tryz.prog 37 #[.agg #[.slice fo nf cf, .slice no nn cn]] W' fun e w' => ∃ er vo vn vc tt k, e = .returned (.tuple #[.agg #[.int .i64 er, .slice vo vn vc, .int .i64 tt], .int .i64 k]) ∧ Gr W' w' ∧ Q er vo vn vc tt w') := fun W' g' => hl W' (g.tr g')
 have HQ : Hid _ := hQ
 clear hl g hQ
 have hx2 : ((W.alloc (.cells #[.slice fo nf cf, .slice no nn cn] 25)).alloc (.cells #[.int .i64 0, .slice none 0 0, .int .i64 0] 52)).heap[W.heap.size + 1]? = some (.cells #[.int .i64 0, .slice none 0 0, .int .i64 0] 52) := by
  have := World.alloc_heap_new (W.alloc (.cells #[.slice fo nf cf, .slice no nn cn] 25)) (.cells #[.int .i64 0, .slice none 0 0, .int .i64 0] 52)
  rw [World.size_alloc] at this
  exact this
 have HG0 : Hid (Gr W ((W.alloc (.cells #[.slice fo nf cf, .slice no nn cn] 25)).alloc (.cells #[.int .i64 0, .slice none 0 0, .int .i64 0] 52))) := (gr_alloc W _).alloc _
 have HX := hidM hx2
 clear hx2
 go_enter Tryz.func21, Tryz.ntmps21
 go_wp2_with (go_at_call 37; refine Hid.out ?_)
 unfold Hid
 refine Calls.mono (HL.out _ HG0.out) ?_
 rintro e W1 ⟨er, vo, vn, vc, tt, k, rfl, hg1, hq⟩
 have hx3 := (hg1.block _ (lt_of_heap HX.out) (fun h => h)).trans HX.out
 have hx4 : (W1.alloc (.cells #[.int .i64 er, .slice vo vn vc, .int .i64 tt] 52)).heap[W.heap.size + 1]? = _ := ((gr_alloc W1 _).block _ (lt_of_heap hx3) (fun h => h)).trans hx3
 obtain ⟨y0, y1, y2⟩ := cell3 hx4
 have y3 := frz hx4 0
 have y4 := frz hx4 1
 have y5 := frz hx4 2
 have e0 := setc (j := 0) hx4 (.int .i64 er)
 have e1 := setc (j := 1) e0 (.slice vo vn vc)
 have e2 := setc (j := 2) e1 (.int .i64 tt)
 have k5 : Keeps (W1.alloc (.cells #[.int .i64 er, .slice vo vn vc, .int .i64 tt] 52)) _ (fun b => b = W.heap.size + 1) := keep1 (j := 2) (keep1 (j := 1) (keep1 (j := 0) (Keeps.refl (W1.alloc (.cells #[.int .i64 er, .slice vo vn vc, .int .i64 tt] 52)) (fun b => b = W.heap.size + 1)) (.int .i64 er)) (.slice vo vn vc)) (.int .i64 tt)
 have HE := hidM (And.intro e2 (And.intro k5 (And.intro hg1 (And.intro hq hx3))))
 clear hx3 hx4 e0 e1 e2 k5 hg1 hq
 go_wp2_with fail
 obtain ⟨e2, k5, hg1, hq, hx3⟩ := HE.out
 have hk : Keeps W1 _ (fun b => b = W.heap.size + 1) := (Keeps.trans (S := fun b => b = W.heap.size + 1) ((gr_alloc W1 _).mono fun _ _ h => h.elim) k5 (fun _ _ h => h))
 have hqe := HQ.out _ _ _ _ _ _ _ _ _ hq hx3 hk
 have hge := (HG0.out.tr hg1).trans hk (fun j hj h => by omega)
 obtain ⟨v0, v1, v2⟩ := cell3 (e2.trans (by simp : _ = some (Obj.cells #[.int .i64 er, .slice vo vn vc, .int .i64 tt] 52 (0, 0))))
 refine bodyPost_ret (v := .agg #[.int .i64 er, .slice vo vn vc, .int .i64 tt]) ?_ rfl ⟨er, vo, vn, vc, tt, rfl, hge, hqe⟩
 simp [results, Tryz.f21, go_sem, v0, v1, v2]
def FaultQ (E : Int × Int) (N : List LS) (er : Int) (vo : Option Addr) (vn vc : Nat) (k : Int) (W : World) : Prop := ∃ p : List Nat, p.length = vn ∧ FaultIs E N er p k ∧ W.ownsRow 0 3 1 (.slice vo vn vc) vn (ints p)
theorem FaultQ.kept (E : Int × Int) (N : List LS) (er : Int) (vo : Option Addr) (vn vc : Nat) (k : Int) (A B : World) (b : Nat) (c : Array Value) (h : FaultQ E N er vo vn vc k A) (hb : A.heap[b]? = some (.cells c 52)) (hk : Keeps A B (fun k => k = b)) : FaultQ E N er vo vn vc k B := by
 obtain ⟨p, h1, h2, h3⟩ := h
 exact ⟨p, h1, h2, row_kp h3 fun q e => hk.block q (own_lt h3 q e) fun h => row_ne_box h3 hb (by decide) (by rw [e, h])⟩
theorem check_fault {S : Nat → Prop} {D : Nat} {fo no : Option Addr} {cf cn : Nat} {fs : List FT} {ns : List (ByteArray × ByteArray)} {w : World} (hT : Tab w) (hr : RowAt S w D fo fs) (hcf : fs.length ≤ cf) (hD : D ≤ big) (hS : ∀ b, S b → b < w.heap.size) (hn : NotesAt w no ns) :
  ∀ W, Gr w W → Calls Tryz.prog 21 #[.agg #[.slice fo fs.length cf, .slice no ns.length cn]] W fun e w' => ∃ er vo vn vc tt, e = .returned (.agg #[.int .i64 er, .slice vo vn vc, .int .i64 tt]) ∧ Gr W w' ∧ FaultQ (listsE fs.length ns) (nodes D fs [] false) er vo vn vc tt w' := by
 refine check_walk2 fo no fs.length cf ns.length cn _ (FaultQ.kept _ _) w fun W g => ?_
 refine Calls.mono (look_walk S D fo no cf cn fs ns W (hT.gr g) (hr.kept fun b hb => g.block b (hS b hb) id) hcf hD (fun b hb => by have := hS b hb; have := g.size; omega) (hn.gr g)) ?_
 rintro e w' ⟨hg, h | h | h⟩
 ·obtain ⟨h1, rfl⟩ := h
  exact ⟨_, none, 0, 0, _, 0, rfl, hg, [], rfl, .inl ⟨h1, rfl, rfl, rfl⟩, World.ownsRow_nil _ _ _ _⟩
 ·obtain ⟨h1, h2, rfl⟩ := h
  exact ⟨0, none, 0, 0, 0, _, rfl, hg, [], rfl, .inr (.inl ⟨h1, h2, rfl, rfl, rfl⟩), World.ownsRow_nil _ _ _ _⟩
 obtain ⟨h1, L, x, vo, vc, h2, h3, h4, rfl, h5, h6⟩ := h
 exact ⟨_, vo, _, vc, 0, _, rfl, hg, x.path, rfl, .inr (.inr ⟨h1, L, x, h2, h3, h4, rfl, rfl, rfl⟩), h5⟩
def CutR (w : World) (Q : Int → Option Addr → Nat → Nat → Int → World → Prop) (e : Ending) (w' : World) : Prop :=
 ∃ er vo vn vc tt A vo' vn' vc', Q er vo vn vc tt A ∧ e = .returned (.agg #[.int .i64 er, .slice vo' vn' vc', .int .i64 tt]) ∧ Gr w w' ∧ (∀ q c, q < A.heap.size → A.heap[q]? = some (.cells c 3) → w'.heap[q]? = A.heap[q]?) ∧
  ((vn = 0 ∧ vo' = vo ∧ vn' = vn ∧ vc' = vc) ∨ (0 < vn ∧ ∃ g, vo = some ⟨g, 0, none⟩ ∧ vn' = vn - 1 ∧ (1 < vn → vo' = some ⟨g, 1, none⟩)))
theorem checkField_walk (f0 : ByteArray) (f1 : Bool) (f2 f3 f4 f5 : Int) (ao : Option Addr) (f6 ca : Nat) (w : World) (Q : Int → Option Addr → Nat → Nat → Int → World → Prop)
  (hck : ∀ W g, Gr w W → w.heap.size ≤ g → W.heap[g]? = some (.cells #[.string f0, .bool f1, .int .i64 f2, .int .i64 f3, .int .i64 f4, .int .i64 f5, .slice ao f6 ca] 58) → Calls Tryz.prog 21 #[.agg #[.slice (some ⟨g, 0, none⟩) 1 1, .slice none 0 0]] W fun e w' => ∃ er vo vn vc tt, e = .returned (.agg #[.int .i64 er, .slice vo vn vc, .int .i64 tt]) ∧ Gr W w' ∧ Q er vo vn vc tt w')
  (hpos : ∀ er vo vn vc tt A, Q er vo vn vc tt A → vn ≤ vc ∧ (er = 0 → vn = 0) ∧ (er ≠ 0 → 0 < vn ∧ ∃ g, vo = some ⟨g, 0, none⟩)) :
  Calls Tryz.prog 109 #[.agg #[.string f0, .bool f1, .int .i64 f2, .int .i64 f3, .int .i64 f4, .int .i64 f5, .slice ao f6 ca]] w (CutR w Q) := by
 have HC := hidM hck
 have HP := hidM hpos
 clear hck hpos
 obtain ⟨W0, hW0⟩ := ex ((w.alloc (.cells #[.string f0, .bool f1, .int .i64 f2, .int .i64 f3, .int .i64 f4, .int .i64 f5, .slice ao f6 ca] 58)).alloc (.cells #[.int .i64 0, .slice none 0 0, .int .i64 0] 52))
 have g0 : Gr w W0 := by rw [← hW0]; exact (gr_alloc w _).alloc _
 have r0 : W0.heap[w.heap.size + 1]? = some (.cells #[.int .i64 0, .slice none 0 0, .int .i64 0] 52) := by
  have := World.alloc_heap_new (w.alloc (.cells #[.string f0, .bool f1, .int .i64 f2, .int .i64 f3, .int .i64 f4, .int .i64 f5, .slice ao f6 ca] 58)) (.cells #[.int .i64 0, .slice none 0 0, .int .i64 0] 52)
  rw [World.size_alloc] at this
  rw [← hW0]
  exact this
 have x0 : W0.heap[w.heap.size]? = some (.cells #[.string f0, .bool f1, .int .i64 f2, .int .i64 f3, .int .i64 f4, .int .i64 f5, .slice ao f6 ca] 58) := by
  rw [← hW0]; exact (Below.heap_alloc _ _ _ (by simp)).trans (World.alloc_heap_new w _)
 obtain ⟨v0, v1, v2, v3, v4, v5, v6⟩ := cell7 x0
 simp only [Nat.zero_add] at v1 v2 v3 v4 v5 v6
 have H0 := hidM (And.intro g0 r0)
 clear g0 r0 x0
 go_enter Tryz.func109, Tryz.ntmps109
 go_wp2_with (go_at_call 122; refine Hid.out ?_)
 unfold Hid
 refine Calls.mono (alone_any f0 f1 f2 f3 f4 f5 ao f6 ca W0) ?_
 rintro e W1 ⟨g, rfl, g1, hg, hx⟩
 have HA := HC.out W1 g (H0.out.1.tr g1) (by have := H0.out.1.size; omega) hx
 have H1 : Hid (Gr w W1 ∧ W1.heap[w.heap.size + 1]? = some (.cells #[.int .i64 0, .slice none 0 0, .int .i64 0] 52)) := ⟨H0.out.1.tr g1, (g1.block _ (lt_of_heap H0.out.2) id).trans H0.out.2⟩
 have HCA := hidM HA
 clear HA HC H0 g1 hg hx v0 v1 v2 v3 v4 v5 v6 hW0
 go_wp2_with (go_at_call 21; refine Hid.out ?_)
 unfold Hid
 refine Calls.mono HCA.out ?_
 rintro e A ⟨er, vo, vn, vc, tt, rfl, gA, hq⟩
 obtain ⟨p1, p3, p4⟩ := HP.out _ _ _ _ _ _ hq
 obtain ⟨W2, hW2⟩ := ex (A.alloc (.cells #[.int .i64 er, .slice vo vn vc, .int .i64 tt] 52))
 have x2 : W2.heap[A.heap.size]? = some (.cells #[.int .i64 er, .slice vo vn vc, .int .i64 tt] 52) := by rw [← hW2]; exact World.alloc_heap_new A _
 have gA2 := gr_al hW2
 have rA : A.heap[w.heap.size + 1]? = some (.cells #[.int .i64 0, .slice none 0 0, .int .i64 0] 52) := (gA.block _ (lt_of_heap H1.out.2) id).trans H1.out.2
 have r2 : W2.heap[w.heap.size + 1]? = some (.cells #[.int .i64 0, .slice none 0 0, .int .i64 0] 52) := (gA2.block _ (lt_of_heap rA) id).trans rA
 have hXR : A.heap.size ≠ w.heap.size + 1 := by have := lt_of_heap rA; omega
 have gw2 : Gr w W2 := (H1.out.1.tr gA).tr gA2
 obtain ⟨c0, c1, c2⟩ := cell3 x2
 obtain ⟨y0, y1, y2⟩ := cell3 r2
 have z1 := frz x2 1
 have y3 := frz r2 0
 have y4 := frz r2 1
 have y5 := frz r2 2
 by_cases he : er = 0
 ·subst he
  have HV := hidM (p3 rfl)
  have e3 := setc (j := 2) (setc (j := 1) (setc (j := 0) r2 (.int .i64 0)) (.slice vo vn vc)) (.int .i64 tt)
  have k3 : Keeps W2 _ (fun b => b = w.heap.size + 1) := keep1 (j := 2) (keep1 (j := 1) (keep1 (j := 0) (Keeps.refl W2 (fun b => b = w.heap.size + 1)) (.int .i64 0)) (.slice vo vn vc)) (.int .i64 tt)
  have HE := hidM (And.intro e3 (And.intro k3 (And.intro gw2 (And.intro gA2 (And.intro rA hq)))))
  clear e3 k3 gw2 gA2 rA hq gA x2 r2 z1 p1 p3 p4 HP HCA H1
  go_wp2_with fail
  obtain ⟨e3, k3, gw2, gA2, rA, hq⟩ := HE.out
  obtain ⟨u0, u1, u2⟩ := cell3 (e3.trans (by simp : _ = some (Obj.cells #[.int .i64 0, .slice vo vn vc, .int .i64 tt] 52 (0, 0))))
  refine bodyPost_ret (v := .agg #[.int .i64 0, .slice vo vn vc, .int .i64 tt]) ?_ rfl ⟨0, vo, vn, vc, tt, A, vo, vn, vc, hq, rfl, gw2.trans k3 (fun j hj h => by omega), ?_, .inl ⟨HV.out, rfl, rfl, rfl⟩⟩
  ·simp [results, Tryz.f109, go_sem, u0, u1, u2]
  intro q c hql hqc
  refine (k3.block q (by have := gA2.size; omega) fun h => ?_).trans (gA2.block q hql id)
  rw [h, rA] at hqc
  simp at hqc
 have heb := beqF he
 obtain ⟨hvp, g', rfl⟩ := p4 he
 have hvI : (1 : Int) ≤ (vn : Int) := by omega
 have hvI2 : (vn : Int) ≤ (vc : Int) := by omega
 have fin : Hid (∀ vo' vc' W5, (1 < vn → vo' = some ⟨g', 1, none⟩) → W5 = (((W2.setCell ⟨A.heap.size, 1, none⟩ (.slice vo' (vn - 1) vc')).setCell ⟨w.heap.size + 1, 0, none⟩ (.int .i64 er)).setCell ⟨w.heap.size + 1, 1, none⟩ (.slice vo' (vn - 1) vc')).setCell ⟨w.heap.size + 1, 2, none⟩ (.int .i64 tt) →
   W5.heap[w.heap.size + 1]? = some (.cells #[.int .i64 er, .slice vo' (vn - 1) vc', .int .i64 tt] 52) ∧ CutR w Q (.returned (.agg #[.int .i64 er, .slice vo' (vn - 1) vc', .int .i64 tt])) W5) := by
  intro vo' vc' W5 hv5 e
  have r3 : (W2.setCell ⟨A.heap.size, 1, none⟩ (.slice vo' (vn - 1) vc')).heap[w.heap.size + 1]? = some (.cells #[.int .i64 0, .slice none 0 0, .int .i64 0] 52) := (heap_setCell_other W2 ⟨A.heap.size, 1, none⟩ _ _ (Ne.symm hXR)).trans r2
  have e3 := setc (j := 2) (setc (j := 1) (setc (j := 0) r3 (.int .i64 er)) (.slice vo' (vn - 1) vc')) (.int .i64 tt)
  rw [← e] at e3
  have k3 : Keeps W2 W5 (fun b => b = A.heap.size ∨ b = w.heap.size + 1) := by
   rw [e]
   exact ((((Keeps.refl W2 _).setCell (p := ⟨A.heap.size, 1, none⟩) (fun _ => .inl rfl) _).setCell (p := ⟨w.heap.size + 1, 0, none⟩) (fun _ => .inr rfl) _).setCell (p := ⟨w.heap.size + 1, 1, none⟩) (fun _ => .inr rfl) _).setCell (p := ⟨w.heap.size + 1, 2, none⟩) (fun _ => .inr rfl) _
  refine ⟨e3.trans (by simp), er, _, vn, vc, tt, A, vo', vn - 1, vc', hq, rfl, gw2.trans k3 (fun j hj h => by have := lt_of_heap rA; have := (H1.out.1.tr gA).size; omega), ?_, .inr ⟨hvp, g', rfl, rfl, hv5⟩⟩
  intro q c hql hqc
  refine (k3.block q (by have := gA2.size; omega) fun h => ?_).trans (gA2.block q hql id)
  rcases h with h | h
  ·omega
  rw [h, rA] at hqc
  simp at hqc
 clear gw2 gA2 rA hq gA x2 r2 p3 p4 HP HCA H1
 go_wp2_with fail
 case inl =>
  obtain ⟨e3, hcut⟩ := fin.out (some ⟨g', 0, none⟩) 0 _ (fun h => by omega) rfl
  obtain ⟨u0, u1, u2⟩ := cell3 e3
  refine bodyPost_ret (v := .agg #[.int .i64 er, .slice (some ⟨g', 0, none⟩) (vn - 1) 0, .int .i64 tt]) ?_ rfl hcut
  simp [results, Tryz.f109, go_sem, u0, u1, u2]
 case inr =>
  obtain ⟨e3, hcut⟩ := fin.out (some ⟨g', 1, none⟩) (vc - 1) _ (fun h => rfl) rfl
  obtain ⟨u0, u1, u2⟩ := cell3 e3
  refine bodyPost_ret (v := .agg #[.int .i64 er, .slice (some ⟨g', 1, none⟩) (vn - 1) (vc - 1), .int .i64 tt]) ?_ rfl hcut
  simp [results, Tryz.f109, go_sem, u0, u1, u2]
end Go.Proofs.YthhpamhfnpacpaaGreatDoor.Kit
