import Derived.Test.YtnmfnmofcgcnbaaGreatDoorFF
set_option maxRecDepth 100000
set_option maxHeartbeats 4000000
namespace Go.Proofs.YtnmfnmofcgcnbaaGreatDoor.Kit
open Go.RowKit Go.Shelf Go.Deep
set_option linter.unusedVariables false
attribute [local go_sem] run_store_func
theorem hidM {p : Prop} (h : p) : Hid p := h
def takV (t : Nat → Bool) : Value := .agg #[.bool (t 0), .bool (t 1), .bool (t 2), .bool (t 3), .bool (t 4), .bool (t 5), .bool (t 6), .bool (t 7), .bool (t 8), .bool (t 9), .bool (t 10), .bool (t 11), .bool (t 12), .bool (t 13), .bool (t 14), .bool (t 15), .bool (t 16), .bool (t 17), .bool (t 18), .bool (t 19), .bool (t 20), .bool (t 21), .bool (t 22), .bool (t 23), .bool (t 24), .bool (t 25), .bool (t 26), .bool (t 27), .bool (t 28), .bool (t 29), .bool (t 30), .bool (t 31)]
/-- what is wrong, in letters -/
def wr (m : Nat) (ahead : Int) (nameR : Bool) (idx i : Int) (tabR nulR inD : Bool) (f2 : Int) (kid : Bool) (tk : Bool) : Int :=
  if 64 < m then 33 else if 256 ≤ ahead then 34 else if nameR = false then 30 else if idx ≠ i then 31 else if tabR = false then 32 else if nulR = false then 35
  else if inD = true ∧ (f2 = 19 ∨ f2 = 20) then 36 else if f2 = 19 ∧ (kid = true ∨ tk = true) then 36 else 0
/-- the three boxes of the call -/
structure WB (W : World) (B F : Nat) (ao : Option Addr) (L ca wb m wc : Nat) (inD : Bool) (t : Nat → Bool) (f0 : ByteArray) (f1 : Bool) (f2 f3 f4 f5 : Int) (ao' : Option Addr) (f6 ca' : Nat) : Prop where
  hb : W.heap[B]? = some (.cells #[.slice ao L ca, .slice (some ⟨wb, 0, none⟩) m wc, .bool inD] 165)
  ht : W.heap[B + 1]? = some (.cells #[.bool (t 0), .bool (t 1), .bool (t 2), .bool (t 3), .bool (t 4), .bool (t 5), .bool (t 6), .bool (t 7), .bool (t 8), .bool (t 9), .bool (t 10), .bool (t 11), .bool (t 12), .bool (t 13), .bool (t 14), .bool (t 15), .bool (t 16), .bool (t 17), .bool (t 18), .bool (t 19), .bool (t 20), .bool (t 21), .bool (t 22), .bool (t 23), .bool (t 24), .bool (t 25), .bool (t 26), .bool (t 27), .bool (t 28), .bool (t 29), .bool (t 30), .bool (t 31)] 160)
  hf : W.heap[F]? = some (.cells #[.string f0, .bool f1, .int .i64 f2, .int .i64 f3, .int .i64 f4, .int .i64 f5, .slice ao' f6 ca'] 27)
theorem lt_of_heap {W : World} {B : Nat} {o : Obj} (h : W.heap[B]? = some o) : B < W.heap.size := (Array.getElem?_eq_some_iff.1 h).1
theorem WB.gr {W W' : World} {B F : Nat} {ao : Option Addr} {L ca wb m wc : Nat} {inD : Bool} {t : Nat → Bool} {f0 : ByteArray} {f1 : Bool} {f2 f3 f4 f5 : Int} {ao' : Option Addr} {f6 ca' : Nat} (h : WB W B F ao L ca wb m wc inD t f0 f1 f2 f3 f4 f5 ao' f6 ca') (g : Gr W W') : WB W' B F ao L ca wb m wc inD t f0 f1 f2 f3 f4 f5 ao' f6 ca' :=
  ⟨(g.block _ (lt_of_heap h.hb) (fun h => h)).trans h.hb, (g.block _ (lt_of_heap h.ht) (fun h => h)).trans h.ht, (g.block _ (lt_of_heap h.hf) (fun h => h)).trans h.hf⟩
theorem WB.cells {W : World} {B F : Nat} {ao : Option Addr} {L ca wb m wc : Nat} {inD : Bool} {t : Nat → Bool} {f0 : ByteArray} {f1 : Bool} {f2 f3 f4 f5 : Int} {ao' : Option Addr} {f6 ca' : Nat} (h : WB W B F ao L ca wb m wc inD t f0 f1 f2 f3 f4 f5 ao' f6 ca') :
    W.cell? ⟨B, 0, none⟩ = some (.slice ao L ca) ∧ W.cell? ⟨B, 1, none⟩ = some (.slice (some ⟨wb, 0, none⟩) m wc) ∧ W.cell? ⟨B, 2, none⟩ = some (.bool inD) ∧ W.cell? ⟨F, 0, none⟩ = some (.string f0) ∧ W.cell? ⟨F, 1, none⟩ = some (.bool f1) ∧ W.cell? ⟨F, 2, none⟩ = some (.int .i64 f2) ∧ W.cell? ⟨F, 3, none⟩ = some (.int .i64 f3) ∧ W.cell? ⟨F, 4, none⟩ = some (.int .i64 f4) ∧ W.cell? ⟨F, 5, none⟩ = some (.int .i64 f5) ∧ W.cell? ⟨F, 6, none⟩ = some (.slice ao' f6 ca') := by
  obtain ⟨hb, ht, hf⟩ := h
  refine ⟨?_, ?_, ?_, ?_, ?_, ?_, ?_, ?_, ?_, ?_⟩ <;> simp [World.cell?, hb, hf]
theorem WB.tk {W : World} {B F : Nat} {ao : Option Addr} {L ca wb m wc : Nat} {inD : Bool} {t : Nat → Bool} {f0 : ByteArray} {f1 : Bool} {f2 f3 f4 f5 : Int} {ao' : Option Addr} {f6 ca' : Nat} (h : WB W B F ao L ca wb m wc inD t f0 f1 f2 f3 f4 f5 ao' f6 ca') (k : Nat) (hk : k < 32) : W.cell? ⟨B + 1, k, none⟩ = some (.bool (t k)) := by
  have ht := h.ht
  simp only [World.cell?, ht]
  have e : (#[.bool (t 0), .bool (t 1), .bool (t 2), .bool (t 3), .bool (t 4), .bool (t 5), .bool (t 6), .bool (t 7), .bool (t 8), .bool (t 9), .bool (t 10), .bool (t 11), .bool (t 12), .bool (t 13), .bool (t 14), .bool (t 15), .bool (t 16), .bool (t 17), .bool (t 18), .bool (t 19), .bool (t 20), .bool (t 21), .bool (t 22), .bool (t 23), .bool (t 24), .bool (t 25), .bool (t 26), .bool (t 27), .bool (t 28), .bool (t 29), .bool (t 30), .bool (t 31)] : Array Value) = ((List.range 32).map fun j => Value.bool (t j)).toArray := rfl
  rw [e]
  simp [hk]
theorem ws_of {w : World} {B F : Nat} {ao : Option Addr} {L ca wb m wc : Nat} {inD : Bool} {t : Nat → Bool} {f0 : ByteArray} {f1 : Bool} {f2 f3 f4 f5 : Int} {ao' : Option Addr} {f6 ca' : Nat} {W : World} (g : Gr w W) (h : WB W B F ao L ca wb m wc inD t f0 f1 f2 f3 f4 f5 ao' f6 ca') : Hid (Gr w W ∧ WB W B F ao L ca wb m wc inD t f0 f1 f2 f3 f4 f5 ao' f6 ca') ∧ W.cell? ⟨B, 0, none⟩ = some (.slice ao L ca) ∧ W.cell? ⟨B, 1, none⟩ = some (.slice (some ⟨wb, 0, none⟩) m wc) ∧ W.cell? ⟨B, 2, none⟩ = some (.bool inD) ∧ W.cell? ⟨F, 0, none⟩ = some (.string f0) :=
  ⟨⟨g, h⟩, h.cells.1, h.cells.2.1, h.cells.2.2.1, h.cells.2.2.2.1⟩
theorem ws_kept {w : World} {B F : Nat} {ao : Option Addr} {L ca wb m wc : Nat} {inD : Bool} {t : Nat → Bool} {f0 : ByteArray} {f1 : Bool} {f2 f3 f4 f5 : Int} {ao' : Option Addr} {f6 ca' : Nat} {W W' : World} (h : Hid (Gr w W ∧ WB W B F ao L ca wb m wc inD t f0 f1 f2 f3 f4 f5 ao' f6 ca') ∧ W.cell? ⟨B, 0, none⟩ = some (.slice ao L ca) ∧ W.cell? ⟨B, 1, none⟩ = some (.slice (some ⟨wb, 0, none⟩) m wc) ∧ W.cell? ⟨B, 2, none⟩ = some (.bool inD) ∧ W.cell? ⟨F, 0, none⟩ = some (.string f0)) (k : Hid (Gr W W')) : Hid (Gr w W' ∧ WB W' B F ao L ca wb m wc inD t f0 f1 f2 f3 f4 f5 ao' f6 ca') ∧ W'.cell? ⟨B, 0, none⟩ = some (.slice ao L ca) ∧ W'.cell? ⟨B, 1, none⟩ = some (.slice (some ⟨wb, 0, none⟩) m wc) ∧ W'.cell? ⟨B, 2, none⟩ = some (.bool inD) ∧ W'.cell? ⟨F, 0, none⟩ = some (.string f0) :=
  ws_of (h.1.out.1.trans k.out (fun _ _ h => h)) (h.1.out.2.gr k.out)
theorem gr_drew {w : World} : Gr w w.drew := (Keeps.refl w _).drew
theorem ws_gr {w : World} {B F : Nat} {ao : Option Addr} {L ca wb m wc : Nat} {inD : Bool} {t : Nat → Bool} {f0 : ByteArray} {f1 : Bool} {f2 f3 f4 f5 : Int} {ao' : Option Addr} {f6 ca' : Nat} {W : World} (h : Hid (Gr w W ∧ WB W B F ao L ca wb m wc inD t f0 f1 f2 f3 f4 f5 ao' f6 ca') ∧ W.cell? ⟨B, 0, none⟩ = some (.slice ao L ca) ∧ W.cell? ⟨B, 1, none⟩ = some (.slice (some ⟨wb, 0, none⟩) m wc) ∧ W.cell? ⟨B, 2, none⟩ = some (.bool inD) ∧ W.cell? ⟨F, 0, none⟩ = some (.string f0)) : Gr w W := h.1.out.1

theorem wrong_walk (ao : Option Addr) (L ca wb m wc : Nat) (inD : Bool) (i : Nat) (t : Nat → Bool) (ahead : Int) (f0 : ByteArray) (f1 : Bool) (f2 f3 f4 f5 : Int) (ao' : Option Addr) (f6 ca' : Nat) (nameR : Bool) (idx : Int) (tabR nulR kid : Bool) (w : World) (hm : m ≤ 1000000000000)
    (hF : ∀ W, Gr w W → Calls Tryz.prog 55 #[.agg #[.slice ao L ca, .slice (some ⟨wb, 0, none⟩) m wc, .bool inD]] W fun e w' => e = .returned (.agg #[.string f0, .bool f1, .int .i64 f2, .int .i64 f3, .int .i64 f4, .int .i64 f5, .slice ao' f6 ca']) ∧ Gr W w')
    (hName : ∀ W, Calls Tryz.prog 78 #[.string f0] W fun e w' => e = .returned (.bool nameR) ∧ w' = W)
    (hIdx : ∀ W, Gr w W → Calls Tryz.prog 79 #[.slice ao L ca, .string f0] W fun e w' => e = .returned (.int .i64 idx) ∧ Gr W w')
    (hNum : ∀ W, Gr w W → Calls Tryz.prog 80 #[.agg #[.slice ao L ca, .slice (some ⟨wb, 0, none⟩) m wc, .bool inD]] W fun e w' => e = .returned (.int .i64 (i : Int)) ∧ Gr W w')
    (hTab : ∀ W, Gr w W → Calls Tryz.prog 81 #[.agg #[.int .i64 f2, .int .i64 f3, .int .i64 f4, .int .i64 f5, .slice ao' f6 ca']] W fun e w' => e = .returned (.bool tabR) ∧ Gr W w')
    (hNul : tabR = true → ∀ W, Gr w W → Calls Tryz.prog 82 #[.agg #[.string f0, .bool f1, .int .i64 f2, .int .i64 f3, .int .i64 f4, .int .i64 f5, .slice ao' f6 ca']] W fun e w' => e = .returned (.bool nulR) ∧ Gr W w')
    (hKid : tabR = true → f2 = 19 → ∃ b o k, ao' = some ⟨b, o, none⟩ ∧ 0 < f6 ∧ w.cell? ⟨b, o + 1, none⟩ = some (.bool kid) ∧ k < 32 ∧ f4 = (k : Nat)) :
    Calls Tryz.prog 53 #[.agg #[.slice ao L ca, .slice (some ⟨wb, 0, none⟩) m wc, .bool inD], .int .i64 ahead, takV t] w fun e w' => e = .returned (.int .i64 (wr m ahead nameR idx i tabR nulR inD f2 kid (t f4.toNat))) ∧ Gr w w' := by
  have HF : Hid _ := hF
  have HNa : Hid _ := hName
  have HI : Hid _ := hIdx
  have HNu : Hid _ := hNum
  have HT : Hid _ := hTab
  have HU : Hid _ := hNul
  have HK : Hid _ := hKid
  clear hF hName hIdx hNum hTab hNul hKid
  unfold takV
  obtain ⟨W0, hW0⟩ : ∃ W0, W0 = (w.alloc (.cells #[.slice ao L ca, .slice (some ⟨wb, 0, none⟩) m wc, .bool inD] 165)).alloc (.cells #[.bool (t 0), .bool (t 1), .bool (t 2), .bool (t 3), .bool (t 4), .bool (t 5), .bool (t 6), .bool (t 7), .bool (t 8), .bool (t 9), .bool (t 10), .bool (t 11), .bool (t 12), .bool (t 13), .bool (t 14), .bool (t 15), .bool (t 16), .bool (t 17), .bool (t 18), .bool (t 19), .bool (t 20), .bool (t 21), .bool (t 22), .bool (t 23), .bool (t 24), .bool (t 25), .bool (t 26), .bool (t 27), .bool (t 28), .bool (t 29), .bool (t 30), .bool (t 31)] 160) := ⟨_, rfl⟩
  have HG0 : Hid (Gr w W0) := by rw [hW0]; exact ((Keeps.refl w _).alloc _).alloc _
  have x1 : W0.heap[w.heap.size]? = some (.cells #[.slice ao L ca, .slice (some ⟨wb, 0, none⟩) m wc, .bool inD] 165) := by
    rw [hW0]; exact (Below.heap_alloc _ _ _ (by simp)).trans (World.alloc_heap_new w _)
  have x2 : W0.heap[w.heap.size + 1]? = some (.cells #[.bool (t 0), .bool (t 1), .bool (t 2), .bool (t 3), .bool (t 4), .bool (t 5), .bool (t 6), .bool (t 7), .bool (t 8), .bool (t 9), .bool (t 10), .bool (t 11), .bool (t 12), .bool (t 13), .bool (t 14), .bool (t 15), .bool (t 16), .bool (t 17), .bool (t 18), .bool (t 19), .bool (t 20), .bool (t 21), .bool (t 22), .bool (t 23), .bool (t 24), .bool (t 25), .bool (t 26), .bool (t 27), .bool (t 28), .bool (t 29), .bool (t 30), .bool (t 31)] 160) := by
    rw [hW0]
    have := World.alloc_heap_new (w.alloc (.cells #[.slice ao L ca, .slice (some ⟨wb, 0, none⟩) m wc, .bool inD] 165)) (.cells #[.bool (t 0), .bool (t 1), .bool (t 2), .bool (t 3), .bool (t 4), .bool (t 5), .bool (t 6), .bool (t 7), .bool (t 8), .bool (t 9), .bool (t 10), .bool (t 11), .bool (t 12), .bool (t 13), .bool (t 14), .bool (t 15), .bool (t 16), .bool (t 17), .bool (t 18), .bool (t 19), .bool (t 20), .bool (t 21), .bool (t 22), .bool (t 23), .bool (t 24), .bool (t 25), .bool (t 26), .bool (t 27), .bool (t 28), .bool (t 29), .bool (t 30), .bool (t 31)] 160)
    rw [World.size_alloc] at this
    exact this
  go_enter Tryz.func53, Tryz.ntmps53
  have p0 : W0.cell? ⟨w.heap.size, 0, none⟩ = some (.slice ao L ca) := by simp [World.cell?, x1]
  have p1 : W0.cell? ⟨w.heap.size, 1, none⟩ = some (.slice (some ⟨wb, 0, none⟩) m wc) := by simp [World.cell?, x1]
  have p2 : W0.cell? ⟨w.heap.size, 2, none⟩ = some (.bool inD) := by simp [World.cell?, x1]
  go_wp2_with fail
  rw [← hW0]
  refine Calls.mono (HF.out W0 HG0.out) ?_
  rintro e W1 ⟨rfl, hg1⟩
  obtain ⟨W2, hW2⟩ : ∃ W2, W1.alloc (.cells #[.string f0, .bool f1, .int .i64 f2, .int .i64 f3, .int .i64 f4, .int .i64 f5, .slice ao' f6 ca'] 27) = W2 := ⟨_, rfl⟩
  have HG2 : Hid (Gr w W2) := by rw [← hW2]; exact (HG0.out.trans hg1 (fun _ _ h => h)).alloc _
  have HW2 : Hid (WB W2 w.heap.size W1.heap.size ao L ca wb m wc inD t f0 f1 f2 f3 f4 f5 ao' f6 ca') := by
    have g : Gr W0 W2 := by rw [← hW2]; exact hg1.alloc _
    exact ⟨(g.block _ (lt_of_heap x1) (fun h => h)).trans x1, (g.block _ (lt_of_heap x2) (fun h => h)).trans x2, by rw [← hW2]; exact World.alloc_heap_new W1 _⟩
  clear x1 x2 p0 p1 p2 hg1 hW0 HG0 HF
  obtain ⟨p0, p1, p2, q0, q1, q2, q3, q4, q5, q6⟩ := HW2.out.cells
  by_cases c1 : 64 < m
  · have c1' : (64 : Int) < (m : Int) := by omega
    go_wp2_with fail
    go_ret
    exact ⟨congrArg (fun z => Ending.returned (.int .i64 z)) (by simp [wr, c1]), HG2.out⟩
  · have c1' : ¬ (64 : Int) < (m : Int) := by omega
    by_cases c2 : 256 ≤ ahead
    · go_wp2_with fail
      go_ret
      exact ⟨congrArg (fun z => Ending.returned (.int .i64 z)) (by simp [wr, c1, c2]), HG2.out⟩
    · have HC2 : Hid (¬ 256 ≤ ahead) := c2
      go_wp2_with fail
      refine Calls.mono (HNa.out _) ?_
      rintro e w' ⟨rfl, rfl⟩
      clear hW2
      cases nameR with
      | false =>
        go_wp2_with fail
        go_ret
        exact ⟨congrArg (fun z => Ending.returned (.int .i64 z)) (by simp [wr, c1, c2]), HG2.out⟩
      | true =>
        generalize W1.heap.size = F at *
        obtain ⟨B, hB⟩ : ∃ B, B = w.heap.size := ⟨_, rfl⟩
        have HB : Hid (B = w.heap.size) := hB
        rw [← hB] at p0 p1 p2 HW2 ⊢
        clear hB
        go_wp2_with fail
        have HIN : Hid (Hid (Gr w w'.drew ∧ WB w'.drew B F ao L ca wb m wc inD t f0 f1 f2 f3 f4 f5 ao' f6 ca') ∧ w'.drew.cell? ⟨B, 0, none⟩ = some (.slice ao L ca) ∧ w'.drew.cell? ⟨B, 1, none⟩ = some (.slice (some ⟨wb, 0, none⟩) m wc) ∧ w'.drew.cell? ⟨B, 2, none⟩ = some (.bool inD) ∧ w'.drew.cell? ⟨F, 0, none⟩ = some (.string f0)) := ws_of (HG2.out.drew) (HW2.out.gr gr_drew)
        clear p0 p1 p2 q0 q1 q2 q3 q4 q5 q6
        go_region_held3 (fun w' => Hid (Gr w w' ∧ WB w' B F ao L ca wb m wc inD t f0 f1 f2 f3 f4 f5 ao' f6 ca') ∧ w'.cell? ⟨B, 0, none⟩ = some (.slice ao L ca) ∧ w'.cell? ⟨B, 1, none⟩ = some (.slice (some ⟨wb, 0, none⟩) m wc) ∧ w'.cell? ⟨B, 2, none⟩ = some (.bool inD) ∧ w'.cell? ⟨F, 0, none⟩ = some (.string f0)) (first | with_reducible exact HIN.out | with_reducible exact ws_kept (by assumption) hk2 | with_reducible exact ws_kept (by assumption) hk1) (first | (go_at_call 79; refine Calls.mono (HI.out _ (ws_gr (by assumption))) ?_; rintro e v1 ⟨rfl, hk1⟩; replace hk1 := hidM hk1) | (go_at_call 80; refine Calls.mono (HNu.out _ (ws_gr (by assumption))) ?_; rintro e v2 ⟨rfl, hk2⟩; replace hk2 := hidM hk2))
        rename_i hHeld
        have HG3 := hidM hHeld.1.out.1
        have HW3 := hidM hHeld.1.out.2
        clear hHeld hk1 hk2 HIN HG2 HW2 HI HNu
        obtain ⟨p0, p1, p2, q0, q1, q2, q3, q4, q5, q6⟩ := HW3.out.cells
        by_cases c4 : idx = (i : Int)
        · have c4' : (idx != (i : Int)) = false := by simp [c4]
          go_wp2_with fail
          refine Calls.mono (HT.out _ HG3.out) ?_
          rintro e v3 ⟨rfl, hg4⟩
          have HG4 := hidM (HG3.out.trans hg4 (fun _ _ h => h))
          have HW4 := hidM (HW3.out.gr hg4)
          clear p0 p1 p2 q0 q1 q2 q3 q4 q5 q6 hg4 HT
          clear HG3 HW3
          obtain ⟨p0, p1, p2, q0, q1, q2, q3, q4, q5, q6⟩ := HW4.out.cells
          cases tabR with
          | false =>
            go_wp2_with fail
            go_ret
            exact ⟨congrArg (fun z => Ending.returned (.int .i64 z)) (by simp [wr, c1, c2, c4]), HG4.out⟩
          | true =>
            go_wp2_with fail
            refine Calls.mono (HU.out (by trivial) _ HG4.out) ?_
            rintro e v4 ⟨rfl, hg5⟩
            have HG5 := hidM (HG4.out.trans hg5 (fun _ _ h => h))
            have HW5 := hidM (HW4.out.gr hg5)
            clear p0 p1 p2 q0 q1 q2 q3 q4 q5 q6 hg5 HU
            clear HG4 HW4
            obtain ⟨p0, p1, p2, q0, q1, q2, q3, q4, q5, q6⟩ := HW5.out.cells
            cases nulR with
            | false =>
              go_wp2_with fail
              go_ret
              exact ⟨congrArg (fun z => Ending.returned (.int .i64 z)) (by simp [wr, c1, c2, c4]), HG5.out⟩
            | true =>
              by_cases c5 : inD = true ∧ (f2 = 19 ∨ f2 = 20)
              · have HE : Hid (wr m ahead true idx i true true inD f2 kid (t f4.toNat) = 36) := by show _ = _; simp [wr, c1, c2, c4, c5.1, c5.2]
                obtain ⟨c6, c7⟩ := c5
                subst c6
                rcases c7 with c7 | c7
                · go_wp2_with fail
                  go_ret
                  exact ⟨congrArg (fun z => Ending.returned (.int .i64 z)) HE.out.symm, HG5.out⟩
                · have c8 : (f2 == 19) = false := by simp [c7]
                  go_wp2_with fail
                  go_ret
                  exact ⟨congrArg (fun z => Ending.returned (.int .i64 z)) HE.out.symm, HG5.out⟩
              · by_cases c6 : f2 = 19
                · have hi : inD = false := by
                    cases inD with
                    | false => rfl
                    | true => exact absurd ⟨rfl, .inl c6⟩ c5
                  obtain ⟨b, o, k, rfl, hf6, hkid, hk32, hfk⟩ := HK.out (by trivial) c6
                  have z1 : v4.cell? ⟨b, o + 1, none⟩ = some (.bool kid) := HG5.out.cell' hkid (fun h => h)
                  have z2 : v4.cell? ⟨B + 1, k, none⟩ = some (.bool (t k)) := HW5.out.tk k hk32
                  have hf6I : (0 : Int) < (f6 : Int) := by omega
                  have HE : Hid (wr m ahead true idx i true true inD f2 kid (t f4.toNat) = if kid = true ∨ t k = true then 36 else 0) := by show _ = _; simp [wr, c1, Int.not_le.2 c2, c4, c6, hi, hfk]
                  subst hi hfk
                  subst c6
                  generalize t k = tk at z2 HE
                  clear hkid HK HW5
                  cases kid with
                  | true =>
                    go_wp2_with fail
                    go_ret
                    exact ⟨congrArg (fun z => Ending.returned (.int .i64 z)) (by rw [HE.out]; simp), HG5.out⟩
                  | false =>
                    cases tk with
                    | true =>
                      go_wp2_with fail
                      go_ret
                      exact ⟨congrArg (fun z => Ending.returned (.int .i64 z)) (by rw [HE.out]; simp), HG5.out⟩
                    | false =>
                      go_wp2_with fail
                      go_ret
                      exact ⟨congrArg (fun z => Ending.returned (.int .i64 z)) (by rw [HE.out]; simp), HG5.out⟩
                · have c6' := beqF c6
                  have HE : Hid (wr m ahead true idx i true true inD f2 kid (t f4.toNat) = 0) := by show _ = _; unfold wr; rw [if_neg c1, if_neg (Int.not_le.2 c2), if_neg (by simp), if_neg (by simp [c4]), if_neg (by simp), if_neg (by simp), if_neg c5, if_neg (by simp [c6])]
                  clear HK
                  cases inD with
                  | false =>
                    go_wp2_with fail
                    go_ret
                    exact ⟨congrArg (fun z => Ending.returned (.int .i64 z)) HE.out.symm, HG5.out⟩
                  | true =>
                    have c7' : (f2 == 20) = false := beqF fun e => c5 ⟨rfl, .inr e⟩
                    go_wp2_with fail
                    go_ret
                    exact ⟨congrArg (fun z => Ending.returned (.int .i64 z)) HE.out.symm, HG5.out⟩
        · have c4' : (idx != (i : Int)) = true := by simp [c4]
          go_wp2_with fail
          go_ret
          exact ⟨congrArg (fun z => Ending.returned (.int .i64 z)) (by simp [wr, c1, c2, c4]), HG3.out⟩
def LS.idx (s : LS) : Nat := s.path.getLastD 0
def LS.fld (s : LS) : FT := (s.list[s.idx]?).getD default
def kid0 (f : FT) : Bool := (f.kids[0]?.map FT.nul).getD false
def wrongE (s : LS) (ahead : Nat) (t : Nat → Bool) : Int :=
  wr s.path.length ahead (nameB s.fld.name) (idxOf s.list s.fld.name) s.idx (tableB s.fld) (nullB s.fld) s.inD s.fld.kind (kid0 s.fld) (t s.fld.id.toNat)
theorem tab_kids {f : FT} (h : tableB f = true) : (f.kind = 19 → f.kids ≠ [] ∧ 0 ≤ f.id ∧ f.id < 32) ∧ (f.kind = 20 → f.kids ≠ []) := by
  unfold tableB dictB at h
  refine ⟨fun e => ?_, fun e => ?_⟩
  · rw [e] at h
    simp [leastK] at h
    refine ⟨fun e2 => ?_, h.2.2.1.1, h.2.2.1.2⟩
    rw [e2] at h
    simp at h
  · rw [e] at h
    simp [leastK] at h
    intro e2
    rw [e2] at h
    simp at h
theorem wrong_any (x : Spot) (S O : Nat → Prop) (t : Nat → Bool) (ahead : Nat) (w : World) (hx : AtS S O x w) (hT : Tab w) (hS : ∀ b, S b → b < w.heap.size) :
    Calls Tryz.prog 53 #[spotV x, .int .i64 (ahead : Int), takV t] w fun e w' => e = .returned (.int .i64 (wrongE x.ls ahead t)) ∧ Gr w w' := by
  obtain ⟨f, b, o, i, m, ao', ca', hf, hle, hr, hSb, p, hp⟩ := hx.f
  have hi : x.ls.idx = i := by show x.path.getLastD 0 = i; rw [hp]; simp
  have hfe : x.ls.fld = f := by show (x.list[x.ls.idx]?).getD default = f; rw [hi, hf.fe]; rfl
  have hrow : ∀ W, Gr w W → RowAt S W (x.d + 1) x.ao x.list := fun W g => hx.row.kept fun b h => g.block b (hS b h) id
  have hrk : ∀ W, Gr w W → RowAt S W x.d ao' f.kids := fun W g => hr.kept fun b h => g.block b (hS b h) id
  have hSg : ∀ W, Gr w W → ∀ b, S b → b < W.heap.size := fun W g b h => Nat.lt_of_lt_of_le (hS b h) g.size
  have := wrong_walk x.ao x.list.length x.ca x.wb x.path.length x.wc x.inD i t ahead f.name f.nul f.kind f.width f.id f.index ao' f.kids.length ca' (nameB f.name) (idxOf x.list f.name) (tableB f) (nullB f) (kid0 f) w
    (by have := hx.deep; unfold big at this; omega)
    (fun W g => field_any x f b o i m ao' ca' W (hf.gr g))
    (fun W => isName_any f.name W)
    (fun W g => numberOfName_any S (x.d + 1) x.ao x.ca x.list f.name W (hrow W g) (hSg W g))
    (fun W g => by
      have h2 := hf.gr g
      rw [hf.len]
      exact (number_exact x.ao x.list.length x.ca x.wb m x.wc i x.inD h2.bm W h2.wc).mono fun e w' h => ⟨h.1, by rw [h.2]; exact gr_alloc _ _⟩)
    (fun W g => fitsTable_any f ao' ca' W (hT.gr g) hr.len)
    (fun ht W g => fitsNull_any f ao' ca' S x.d W (hrk W g) (tab_kids ht).2)
    (fun ht hk => by
      obtain ⟨h1, h2, h3⟩ := (tab_kids ht).1 hk
      cases hd : x.d with
      | zero => rw [hd] at hr; exact absurd hr h1
      | succ d =>
        rw [hd] at hr
        obtain ⟨b', o', e, _, hcs⟩ := hr.2 h1
        have hpos : 0 < f.kids.length := List.length_pos_iff.2 h1
        obtain ⟨ao2, ca2, hc, _⟩ := hcs 0 hpos
        refine ⟨b', o', f.id.toNat, e, hpos, ?_, by omega, by omega⟩
        have := hc.c1
        simp only [Nat.zero_mul, Nat.add_zero] at this
        rw [this]
        simp [kid0, List.getElem?_eq_getElem hpos])
  unfold wrongE
  rw [hfe, hi]
  exact this

/-- slices.Clone of a list that isn't nil -/
theorem clone_any (b n c : Nat) (l : List Nat) (hl : l.length = n) (hb : n ≤ big) (w : World) (h : w.ownsRow 0 3 1 (.slice (some ⟨b, 0, none⟩) n c) n (ints l)) :
    Calls Tryz.prog 54 #[.slice (some ⟨b, 0, none⟩) n c] w fun e w' => ∃ vo vc, e = .returned (.slice vo n vc) ∧ w'.ownsRow 0 3 1 (.slice vo n vc) n (ints l) ∧ Gr w w' ∧ (∀ g, (Value.slice vo n vc).ownBlock = some g → w.heap.size ≤ g) := by
  have hb2 : n ≤ 1000000000000 := hb
  have hs : ∀ o, Src Tryz.prog 1 48 (.slice (some ⟨b, 0, none⟩) n c) n (ints l) (w.alloc o) := fun o => by
    have h2 : (w.alloc o).ownsRow 0 3 1 (.slice (some ⟨b, 0, none⟩) n c) n (ints l) := own_kp h fun g e => (gr_alloc w o).block g (own_lt h g e) id
    exact Src.ofSlice (w := w.alloc o) Tryz.underlying48 ⟨b, 0, none⟩ n c (ints l) (by simp [ints, hl]) (h2.cells rfl) (fun u hu => by simp [ints] at hu; obtain ⟨a, _, rfl⟩ := hu; rfl)
  have HS : Hid _ := hs
  have HE : Hid ((w.alloc (.cells #[] 3)).ownsRow 0 3 1 (.slice (some ⟨w.heap.size, 0, none⟩) 0 0) 0 []) := ⟨rfl, .inr ⟨w.heap.size, 0, #[], rfl, Nat.zero_le _, World.alloc_heap_new w _, Nat.le_refl _, Nat.zero_le _, rfl, rfl⟩⟩
  have hq : ∀ w, (binOp .eql 48 (.slice (some ⟨b, 0, none⟩) n c) (.slice none 0 0)).run Tryz.prog w = .ok (.bool false) w := fun w => by kernel_rfl
  clear hs h
  go_enter Tryz.func54, Tryz.ntmps54
  go_wp2_with (at_builtin; refine Hid.out ?_)
  unfold Hid
  refine wpList_append_any _ rfl (.tmp 5) (.tmp 6) 48 48 rfl 3 (.int .i64 0) 8 Tryz.underlying48 info3 rfl _ 0 [] rfl HE.out _ n (ints l) rfl (HS.out _) (by omega) (by omega) ?_
  intro v' w1 hown' hgrow hblk
  rw [Nat.zero_add, List.nil_append] at hown'
  obtain ⟨vo, vc, rfl⟩ : ∃ vo vc, v' = .slice vo n vc := by
    rcases hown'.2 with ⟨rfl, h0⟩ | ⟨g, cap, cur, rfl, _⟩
    · exact ⟨none, 0, by rw [h0]⟩
    · exact ⟨_, _, rfl⟩
  have HF : Hid (w1.ownsRow 0 3 1 (.slice vo n vc) n (ints l) ∧ Gr w w1 ∧ (∀ g, (Value.slice vo n vc).ownBlock = some g → w.heap.size ≤ g)) := by
    refine ⟨hown', (gr_alloc w _).trans (Keeps.ofGrown hgrow) (fun j hj e => by have e' : (Value.slice (some ⟨w.heap.size, 0, none⟩) 0 0).ownBlock = some j := e; cases e'; exact absurd hj (Nat.lt_irrefl w.heap.size)), fun g e => ?_⟩
    rcases hblk with h | h
    · rw [h] at e
      have e' : (Value.slice (some ⟨w.heap.size, 0, none⟩) 0 0).ownBlock = some g := e
      cases e'; exact Nat.le_refl w.heap.size
    · have := h g e; simp at this; omega
  clear hown' hgrow hblk
  go_wp2
  go_ret
  exact ⟨_, _, rfl, HF.out.1, HF.out.2.1, HF.out.2.2⟩

/-! ### notes -/
def NotesAt (W : World) (no : Option Addr) (l : List (ByteArray × ByteArray)) : Prop :=
  l.length ≤ big ∧ (l ≠ [] → ∃ b o, no = some ⟨b, o, none⟩ ∧ ∀ i (h : i < l.length), W.cell? ⟨b, o + i * 2, none⟩ = some (.string l[i].1) ∧ W.cell? ⟨b, o + i * 2 + 1, none⟩ = some (.string l[i].2))
theorem NotesAt.gr {W W' : World} {no : Option Addr} {l : List (ByteArray × ByteArray)} (h : NotesAt W no l) (g : Gr W W') : NotesAt W' no l :=
  ⟨h.1, fun hn => by
    obtain ⟨b, o, e, hc⟩ := h.2 hn
    exact ⟨b, o, e, fun i hi => ⟨g.cell' (hc i hi).1 (fun h => h), g.cell' (hc i hi).2 (fun h => h)⟩⟩⟩
def noteBad (n : ByteArray × ByteArray) : Bool := decide (256 < n.1.size) || decide (256 < n.2.size)
/-- what is wrong with the lists themselves: the error, and its number -/
def listsE (nf : Nat) (l : List (ByteArray × ByteArray)) : Int × Int :=
  if 32 < nf then (34, 32) else if 16 < l.length then (34, 16) else if l.findIdx noteBad < l.length then (37, l.findIdx noteBad) else (0, 0)
def fltV (e : Int) (p : Value) (a : Int) : Value := .agg #[.int .i64 e, p, .int .i64 a]

theorem cell3 {W : World} {B t : Nat} {x y z : Value} (h : W.heap[B]? = some (.cells #[x, y, z] t)) : W.cell? ⟨B, 0, none⟩ = some x ∧ W.cell? ⟨B, 1, none⟩ = some y ∧ W.cell? ⟨B, 2, none⟩ = some z := by simp [World.cell?, h]
theorem frz {W : World} {B t : Nat} {c : Array Value} (h : W.heap[B]? = some (.cells c t)) (j : Nat) : W.frozen? ⟨B, j, none⟩ = false := by simp [World.frozen?, h]
theorem idx_bad {l : List (ByteArray × ByteArray)} {k : Nat} (hk : k < l.length) (h : ∀ i (h : i < l.length), i < k → noteBad l[i] = false) (hx : noteBad l[k] = true) : l.findIdx noteBad = k := by
  rw [List.findIdx_eq hk]
  exact ⟨hx, fun j hj => by rw [h j (by omega) hj]⟩
theorem idx_good {l : List (ByteArray × ByteArray)} (h : ∀ i (h : i < l.length), noteBad l[i] = false) : ¬ l.findIdx noteBad < l.length := fun hlt => by
  have := List.findIdx_getElem (w := hlt)
  rw [h _ hlt] at this
  cases this
theorem lists_any (fo no : Option Addr) (nf cf cn : Nat) (l : List (ByteArray × ByteArray)) (w : World) (hn : NotesAt w no l) :
    Calls Tryz.prog 51 #[.agg #[.slice fo nf cf, .slice no l.length cn]] w fun e w' => e = .returned (fltV (listsE nf l).1 (.slice none 0 0) (listsE nf l).2) ∧ Gr w w' := by
  have HN : Hid _ := hn
  obtain ⟨E, hE⟩ : ∃ E, E = listsE nf l := ⟨_, rfl⟩
  rw [← hE]
  have HE : Hid _ := hE
  obtain ⟨L, hL⟩ : ∃ L, L = l.length := ⟨_, rfl⟩
  rw [← hL]
  have HL : Hid _ := hL
  clear hn hE hL
  unfold fltV
  go_enter Tryz.func51, Tryz.ntmps51
  have hbx : ∀ (x y z : Value), ((w.alloc (.cells #[.slice fo nf cf, .slice no L cn] 56)).alloc (.cells #[x, y, z] 50)).heap[w.heap.size + 1]? = some (.cells #[x, y, z] 50) := fun x y z => by
    have := World.alloc_heap_new (w.alloc (.cells #[.slice fo nf cf, .slice no L cn] 56)) (.cells #[x, y, z] 50)
    rw [World.size_alloc] at this
    exact this
  have HX : Hid _ := hbx
  have HG : Hid (∀ o o', Gr w ((w.alloc o).alloc o')) := fun o o' => (gr_alloc w o).alloc o'
  clear hbx
  by_cases c1 : 32 < nf
  · have c1' : (32 : Int) < (nf : Int) := by omega
    go_wp2
    obtain ⟨t0, t1, t2⟩ := cell3 (HX.out (.int .i64 34) (.slice none 0 0) (.int .i64 32))
    refine bodyPost_ret (v := .agg #[.int .i64 34, .slice none 0 0, .int .i64 32]) ?_ rfl ?_
    · simp [results, Tryz.f51, go_sem, t0, t1, t2]
    · exact ⟨by rw [HE.out]; simp [listsE, c1], HG.out _ _⟩
  · have c1' : ¬ (32 : Int) < (nf : Int) := by omega
    by_cases c2 : 16 < L
    · have c2' : (16 : Int) < (L : Int) := by omega
      go_wp2
      obtain ⟨t0, t1, t2⟩ := cell3 (HX.out (.int .i64 34) (.slice none 0 0) (.int .i64 16))
      refine bodyPost_ret (v := .agg #[.int .i64 34, .slice none 0 0, .int .i64 16]) ?_ rfl ?_
      · simp [results, Tryz.f51, go_sem, t0, t1, t2]
      · exact ⟨by rw [HE.out]; have := HL.out; simp [listsE, c1, ← this, c2], HG.out _ _⟩
    · have c2' : ¬ (16 : Int) < (L : Int) := by omega
      have HC : Hid (¬ 32 < nf ∧ ¬ 16 < L) := ⟨c1, c2⟩
      have hL16 : L ≤ 16 := by omega
      go_wp2
      have HX0 := hidM (HX.out (.int .i64 0) (.slice none 0 0) (.int .i64 0))
      have HG0 := hidM (HG.out (.cells #[.slice fo nf cf, .slice no L cn] 56) (.cells #[.int .i64 0, .slice none 0 0, .int .i64 0] 50))
      generalize ((w.alloc (.cells #[.slice fo nf cf, .slice no L cn] 56)).alloc (.cells #[.int .i64 0, .slice none 0 0, .int .i64 0] 50)) = W0 at *
      clear HX HG
      obtain ⟨B, hB⟩ : ∃ B, B = w.heap.size + 1 := ⟨_, rfl⟩
      rw [← hB] at HX0 ⊢
      have HB : Hid _ := hB
      clear hB
      go_loopw [18] (fun i wr => ∃ k : Nat, k ≤ L ∧ i = .int .i64 (k : Int) ∧ Hid (Gr w wr ∧ wr.heap[B]? = some (.cells #[.int .i64 0, .slice none 0 0, .int .i64 0] 50) ∧ ∀ i (h : i < l.length), i < k → noteBad l[i] = false)) (fun i _ => L - (intOf i).toNat)
      case atStart => exact ⟨0, by omega, rfl, HG0.out, HX0.out, fun i h h0 => by omega⟩
      case round =>
        clear HX0 HG0
        obtain ⟨k, hk, rfl, HK⟩ := hrel
        by_cases hlt : k < L
        · have hl := HL.out
          have hkl : k < l.length := by omega
          obtain ⟨b, o, rfl, hcs⟩ := HN.out.2 (fun e => by rw [e] at hkl; simp at hkl)
          obtain ⟨g0, g1⟩ := hcs k hkl
          replace g0 := HK.out.1.cell' g0 (fun h => h)
          replace g1 := HK.out.1.cell' g1 (fun h => h)
          have HBk : Hid (noteBad l[k] = (decide (256 < l[k].1.size) || decide (256 < l[k].2.size))) := rfl
          have HE1 : Hid (noteBad l[k] = true → E = (37, (k : Int))) := fun hx => by
            have e := idx_bad hkl HK.out.2.2 hx
            rw [HE.out]; unfold listsE
            rw [if_neg HC.out.1, if_neg (by have := HC.out.2; omega), e, if_pos hkl]
          have HM : Hid (noteBad l[k] = false → ∀ i (h : i < l.length), i < k + 1 → noteBad l[i] = false) := fun hx i hi hlt => by
            by_cases e : i = k
            · subst e; exact hx
            · exact HK.out.2.2 i hi (by omega)
          have HW : Hid (Gr w wr ∧ wr.heap[B]? = some (.cells #[.int .i64 0, .slice none 0 0, .int .i64 0] 50)) := ⟨HK.out.1, HK.out.2.1⟩
          have hbx : ∀ o, (wr.alloc o).heap[B]? = some (.cells #[.int .i64 0, .slice none 0 0, .int .i64 0] 50) := fun o => ((gr_alloc wr o).block _ (lt_of_heap HK.out.2.1) (fun h => h)).trans HK.out.2.1
          have y0 := fun o => (cell3 (hbx o)).1
          have y1 := fun o => (cell3 (hbx o)).2.1
          have y2 := fun o => (cell3 (hbx o)).2.2
          have y3 := fun o => frz (hbx o) 0
          have y4 := fun o => frz (hbx o) 1
          have y5 := fun o => frz (hbx o) 2
          have HBX : Hid _ := hbx
          generalize noteBad l[k] = nb at HBk HE1 HM
          generalize l[k].1 = n0 at *
          generalize l[k].2 = n1 at *
          clear hcs hl hkl HK HN hbx
          have fin : ∀ W4, W4 = (((wr.alloc (.cells #[.string n0, .string n1] 198)).setCell ⟨B, 0, none⟩ (.int .i64 37)).setCell ⟨B, 1, none⟩ (.slice none 0 0)).setCell ⟨B, 2, none⟩ (.int .i64 (k : Int)) → W4.heap[B]? = some (.cells #[.int .i64 37, .slice none 0 0, .int .i64 (k : Int)] 50) ∧ Gr w W4 := by
            intro W4 e
            refine ⟨?_, ?_⟩
            · rw [e, setc (j := 2) (setc (j := 1) (setc (j := 0) (HBX.out _) _) _) _]; simp
            · rw [e]
              have k1 : Keeps (wr.alloc (.cells #[.string n0, .string n1] 198)) _ (fun b => b = B) := keep1 (j := 2) (keep1 (j := 1) (keep1 (j := 0) (Keeps.refl (wr.alloc (.cells #[.string n0, .string n1] 198)) (fun b => b = B)) (.int .i64 37)) (.slice none 0 0)) (.int .i64 (k : Int))
              exact (HW.out.1.alloc _).trans (T := fun b => b = B) k1 (fun j hj h => by have := HB.out; omega)
          have HFN : Hid _ := fin
          clear fin
          by_cases d1 : 256 < n0.size
          · have d1' : (256 : Int) < (n0.size : Int) := by omega
            have hnb : nb = true := by rw [HBk.out]; simp [d1]
            have HE2 := hidM (HE1.out hnb)
            clear HE1 HM HBk
            go_wp2_with fail
            obtain ⟨hb4, hg4⟩ := HFN.out _ rfl
            obtain ⟨t0, t1, t2⟩ := cell3 hb4
            refine bodyPost_ret (v := .agg #[.int .i64 37, .slice none 0 0, .int .i64 (k : Int)]) ?_ rfl ?_
            · simp [results, Tryz.f51, go_sem, t0, t1, t2]
            · exact ⟨by rw [HE2.out], hg4⟩
          · have d1' : ¬ (256 : Int) < (n0.size : Int) := by omega
            by_cases d2 : 256 < n1.size
            · have d2' : (256 : Int) < (n1.size : Int) := by omega
              have hnb : nb = true := by rw [HBk.out]; simp [d2]
              have HE2 := hidM (HE1.out hnb)
              clear HE1 HM HBk
              go_wp2_with fail
              obtain ⟨hb4, hg4⟩ := HFN.out _ rfl
              obtain ⟨t0, t1, t2⟩ := cell3 hb4
              refine bodyPost_ret (v := .agg #[.int .i64 37, .slice none 0 0, .int .i64 (k : Int)]) ?_ rfl ?_
              · simp [results, Tryz.f51, go_sem, t0, t1, t2]
              · exact ⟨by rw [HE2.out], hg4⟩
            · have d2' : ¬ (256 : Int) < (n1.size : Int) := by omega
              have hnb : nb = false := by rw [HBk.out]; simp; omega
              have HM2 := hidM (HM.out hnb)
              clear HE1 HM HBk
              go_wp2_with fail
              go_roundw
              case rel => exact ⟨k + 1, by omega, by simp, HW.out.1.alloc _, HBX.out _, HM2.out⟩
              case measure => simp [intOf]; omega
        · have HE1 : Hid (E = (0, 0)) := by
            have e := idx_good (l := l) fun i hi => HK.out.2.2 i hi (by have := HL.out; omega)
            show _ = _
            rw [HE.out]; unfold listsE
            rw [if_neg HC.out.1, if_neg (by have := HC.out.2; have := HL.out; omega), if_neg e]
          have hg := HK.out.1
          have hbx := HK.out.2.1
          obtain ⟨y0, y1, y2⟩ := cell3 hbx
          have y3 := frz hbx 0
          have y4 := frz hbx 1
          have y5 := frz hbx 2
          have fin : ∀ W4, W4 = ((wr.setCell ⟨B, 0, none⟩ (.int .i64 0)).setCell ⟨B, 1, none⟩ (.slice none 0 0)).setCell ⟨B, 2, none⟩ (.int .i64 0) → W4.heap[B]? = some (.cells #[.int .i64 0, .slice none 0 0, .int .i64 0] 50) ∧ Gr w W4 := by
            intro W4 e
            refine ⟨?_, ?_⟩
            · rw [e, setc (j := 2) (setc (j := 1) (setc (j := 0) hbx _) _) _]; simp
            · rw [e]
              have k1 : Keeps wr _ (fun b => b = B) := keep1 (j := 2) (keep1 (j := 1) (keep1 (j := 0) (Keeps.refl wr (fun b => b = B)) (.int .i64 0)) (.slice none 0 0)) (.int .i64 0)
              exact hg.trans (T := fun b => b = B) k1 (fun j hj h => by have := HB.out; omega)
          have HFN : Hid _ := fin
          have hkL : k = L := by omega
          subst hkL
          clear fin HK hg hbx HN
          go_wp2_with fail
          obtain ⟨hb4, hg4⟩ := HFN.out _ rfl
          obtain ⟨t0, t1, t2⟩ := cell3 hb4
          refine bodyPost_ret (v := .agg #[.int .i64 0, .slice none 0 0, .int .i64 0]) ?_ rfl ?_
          · simp [results, Tryz.f51, go_sem, t0, t1, t2]
          · exact ⟨by rw [HE1.out], hg4⟩
end Go.Proofs.YtnmfnmofcgcnbaaGreatDoor.Kit
