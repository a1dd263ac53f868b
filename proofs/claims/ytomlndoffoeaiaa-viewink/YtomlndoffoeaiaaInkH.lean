import Derived.Test.YtomlndoffoeaiaaInkG
namespace Go.Proofs.Ytomlndoffoeaiaa.Kit
open Go.RowKit Go.Deep

/-- the ink and the document's, side by side, in memory that was not there in w -/
structure Pair (w wr : World) (P R : Nat) (go gr : Option Nat) (most : Int) (bk br : List Int) : Prop where
  ik : InkAt wr 115 P go most bk
  ir : InkAt wr 117 R gr most br
  pr : P ≠ R
  gg : ∀ g, go = some g → gr = some g → False
  hp : w.heap.size ≤ P
  hr : w.heap.size ≤ R
  hgo : ∀ g, go = some g → w.heap.size ≤ g
  hgr : ∀ g, gr = some g → w.heap.size ≤ g
  keep : Keeps w wr (fun _ => False)
  okk : InkOk most bk
  okr : InkOk most br

theorem InkAt.ne {w : World} {ty p q : Nat} {go : Option Nat} {most : Int} {bs : List Int} {cs : Array Value} {ty' : Nat} (h : InkAt w ty p go most bs) (hty : ty' ≠ 5) (hq : w.heap[q]? = some (.cells cs ty' (0, 0))) : go ≠ some q := by
  obtain ⟨v, hv, hown, hb⟩ := h
  rw [← hb]
  exact own_ne hty hq hown
theorem InkAt.row {w : World} {ty p : Nat} {go : Option Nat} {most : Int} {bs : List Int} (h : InkAt w ty p go most bs) : ∃ cs, w.heap[p]? = some (.cells cs ty (0, 0)) := by
  obtain ⟨v, hv, _⟩ := h; exact ⟨_, hv⟩

theorem Pair.kept {w wr w' : World} {P R : Nat} {go gr : Option Nat} {most : Int} {bk br : List Int} (h : Pair w wr P R go gr most bk br) (hk : Keeps wr w' (fun _ => False)) : Pair w w' P R go gr most bk br :=
  { h with ik := h.ik.kept hk id (fun _ _ => id), ir := h.ir.kept hk id (fun _ _ => id), keep := h.keep.trans hk fun _ _ h => h }

theorem Pair.left {w wr w' : World} {P R : Nat} {go gr : Option Nat} {most : Int} {bk br bk' : List Int} (h : Pair w wr P R go gr most bk br) (hd : InkDone wr w' 115 P go most bk') (hok : InkOk most bk') : ∃ go', Pair w w' P R go' gr most bk' br := by
  obtain ⟨go', i', k', g'⟩ := hd
  obtain ⟨cs, hR⟩ := h.ir.row
  obtain ⟨cs', hP⟩ := h.ik.row
  have n1 : go ≠ some R := h.ik.ne (by decide) hR
  have n2 : gr ≠ some P := h.ir.ne (by decide) hP
  refine ⟨go', i', h.ir.kept k' (fun e => ?_) (fun g hg e => ?_), h.pr, fun g h1 h2 => ?_, h.hp, h.hr, fun g hg => ?_, h.hgr, h.keep.trans k' (fun j hj e => ?_), hok, h.okr⟩
  · rcases e with e | e
    · exact h.pr e.symm
    · exact n1 e
  · rcases e with e | e
    · exact n2 (e ▸ hg)
    · exact h.gg g e hg
  · rcases g' with e | e
    · exact h.gg g (e ▸ h1) h2
    · have := e g h1; have := h.ir.lt.2 g h2; omega
  · rcases g' with e | e
    · exact h.hgo g (e ▸ hg)
    · have := e g hg; have := h.keep.size; omega
  · rcases e with e | e
    · have := h.hp; omega
    · have := h.hgo j e; omega

theorem Pair.right {w wr w' : World} {P R : Nat} {go gr : Option Nat} {most : Int} {bk br br' : List Int} (h : Pair w wr P R go gr most bk br) (hd : InkDone wr w' 117 R gr most br') (hok : InkOk most br') : ∃ gr', Pair w w' P R go gr' most bk br' := by
  obtain ⟨go', i', k', g'⟩ := hd
  obtain ⟨cs, hR⟩ := h.ir.row
  obtain ⟨cs', hP⟩ := h.ik.row
  have n1 : go ≠ some R := h.ik.ne (by decide) hR
  have n2 : gr ≠ some P := h.ir.ne (by decide) hP
  refine ⟨go', h.ik.kept k' (fun e => ?_) (fun g hg e => ?_), i', h.pr, fun g h1 h2 => ?_, h.hp, h.hr, h.hgo, fun g hg => ?_, h.keep.trans k' (fun j hj e => ?_), h.okk, hok⟩
  · rcases e with e | e
    · exact h.pr e
    · exact n2 e
  · rcases e with e | e
    · exact n1 (e ▸ hg)
    · exact h.gg g hg e
  · rcases g' with e | e
    · exact h.gg g h1 (e ▸ h2)
    · have := e g h2; have := h.ik.lt.2 g h1; omega
  · rcases g' with e | e
    · exact h.hgr g (e ▸ hg)
    · have := e g hg; have := h.keep.size; omega
  · rcases e with e | e
    · have := h.hr; omega
    · have := h.hgr j e; omega

theorem numR_ok {most : Int} {bs : List Int} (x width : Int) (h : InkOk most bs) : InkOk most (numR most bs x width).2 := by
  obtain ⟨h1, h2, h3⟩ := h
  unfold numR
  split
  · exact ⟨h1, h2, h3⟩
  · rename_i hw
    have hw := (wideB_iff width).1 (by simpa using hw)
    split
    · exact ⟨h1, h2, h3⟩
    · refine ⟨h1, h2, ?_⟩; simp [leB_length]; omega
theorem textR_ok {most : Int} {bs : List Int} (s : ByteArray) (h : InkOk most bs) : InkOk most (textR most bs s).2 := by
  obtain ⟨h1, h2, h3⟩ := h
  unfold textR
  split
  · exact ⟨h1, h2, h3⟩
  · refine ⟨h1, h2, ?_⟩; simp [bytesOf_length]; omega
theorem fillR_ok {most : Int} {bs : List Int} (n b : Int) (h : InkOk most bs) : InkOk most (fillR most bs n b).2 := by
  obtain ⟨h1, h2, h3⟩ := h
  unfold fillR
  split
  · exact ⟨h1, h2, h3⟩
  · split
    · exact ⟨h1, h2, h3⟩
    · refine ⟨h1, h2, ?_⟩; simp; omega
theorem padR_ok {most : Int} {bs : List Int} (to : Int) (h : InkOk most bs) : InkOk most (padR most bs to).2 := by
  unfold padR
  split
  · exact h
  · exact fillR_ok _ _ h

theorem number_300 (p : Nat) (w : World) (hI : InkAt w 115 p none 1 []) :
    Calls Try.prog 22 #[.pointer (some ⟨p, 0, none⟩), .int .u64 300, .int .i64 1] w fun e w' => e = .returned (.int .i64 0) ∧ InkDone w w' 115 p none 1 [44] := by
  have e : numR 1 [] 300 1 = (0, [44]) := by decide
  have := number_all p none 1 [] 300 1 w hI ⟨by decide, by decide, by decide⟩
  rw [e] at this
  exact this

/-- the script: what each step says -/
structure InkStep where
  kind : Int
  x : Int
  n : Int
  s : ByteArray

/-- a step in memory -/
def StepAt (w : World) (b off : Nat) (o : InkStep) : Prop :=
  w.cell? ⟨b, off, none⟩ = some (.int .i64 o.kind) ∧ w.cell? ⟨b, off + 1, none⟩ = some (.int .u64 o.x) ∧ w.cell? ⟨b, off + 2, none⟩ = some (.int .i64 o.n) ∧ w.cell? ⟨b, off + 3, none⟩ = some (.string o.s) ∧ 0 ≤ o.x ∧ o.x < 18446744073709551616 ∧ o.s.size ≤ 9223372036854775807

theorem box_cells {wr w1 : World} {a b c d : Value} {S : Nat → Prop} (hk : Keeps (wr.alloc (.cells #[a, b, c, d] 62)) w1 S) (hS : ¬ S wr.heap.size) :
    w1.cell? ⟨wr.heap.size, 1, none⟩ = some b ∧ w1.cell? ⟨wr.heap.size, 2, none⟩ = some c ∧ w1.cell? ⟨wr.heap.size, 3, none⟩ = some d := by
  have h := heap_alloc_new wr (.cells #[a, b, c, d] 62)
  refine ⟨hk.cell' ?_ hS, hk.cell' ?_ hS, hk.cell' ?_ hS⟩
  · rw [cell_of_row _ _ 1 _ _ _ h]; rfl
  · rw [cell_of_row _ _ 2 _ _ _ h]; rfl
  · rw [cell_of_row _ _ 3 _ _ _ h]; rfl

/-- behind the first of two calls: the pair, and the step's own box -/
theorem Pair.call {w wr w1 : World} {P R : Nat} {go gr : Option Nat} {most : Int} {bk br bk' : List Int} {a b c d : Value} (h : Pair w wr P R go gr most bk br) (hd : InkDone (wr.alloc (.cells #[a, b, c, d] 62)) w1 115 P go most bk') (hok : InkOk most bk') :
    Hid (∃ go', Pair w w1 P R go' gr most bk' br) ∧ w1.cell? ⟨wr.heap.size, 1, none⟩ = some b ∧ w1.cell? ⟨wr.heap.size, 2, none⟩ = some c ∧ w1.cell? ⟨wr.heap.size, 3, none⟩ = some d := by
  refine ⟨(h.kept (Keeps.none_alloc wr _)).left hd hok, ?_⟩
  obtain ⟨go', i', k', g'⟩ := hd
  refine box_cells k' fun e => ?_
  rcases e with e | e
  · have := h.ik.lt.1; omega
  · have := h.ik.lt.2 _ e; omega

set_option maxRecDepth 100000 in
set_option maxHeartbeats 4000000 in
theorem ink_walk (most : Int) (ao : Option Addr) (b off len cap : Nat) (ops : Nat → InkStep) (w : World) (hlen : len ≤ 9223372036854775807) (hao : 0 < len → ao = some ⟨b, off, none⟩ ∧ b < w.heap.size) (hops : ∀ i, i < len → StepAt w b (off + i * 4) (ops i)) :
    Calls Try.prog 5 #[.int .i64 most, .slice ao len cap] w fun e w' => e = .returned (.bool true) ∧ Below w.heap.size w w' := by
  have HAO : Hid (0 < len → ao = some ⟨b, off, none⟩ ∧ b < w.heap.size) := hao
  clear hao
  have HO : Hid (∀ i, i < len → StepAt w b (off + i * 4) (ops i)) := hops
  clear hops
  go_enter Try.func5, Try.ntmps5
  go_wp2_with fail
  go_at_call 21
  refine (newInk_any most _).mono ?_
  rintro e w1 ⟨rfl, hw1⟩
  have HI1 : Hid (InkAt w1 115 w.heap.size none (clamp most) []) := by rw [hw1]; exact InkAt.new w 115 _
  have HK1 : Hid (Keeps w w1 (fun _ => False)) := by rw [hw1]; exact Keeps.none_alloc w _
  clear hw1
  go_wp2_with fail
  go_at_call 21
  refine (newInk_any 1 _).mono ?_
  rintro e w2 ⟨rfl, hw2⟩
  have HI2 : Hid (InkAt w2 115 w.heap.size none (clamp most) []) := by rw [hw2]; exact HI1.out.kept (Keeps.none_alloc w1 _) id (fun _ _ => id)
  have HJ2 : Hid (InkAt w2 115 w1.heap.size none 1 []) := by rw [hw2]; exact InkAt.new w1 115 _
  have HK2 : Hid (Keeps w w2 (fun _ => False)) := by rw [hw2]; exact HK1.out.trans (Keeps.none_alloc w1 _) fun _ _ h => h
  clear hw2
  have hPlt : w.heap.size < w1.heap.size := HI1.out.lt.1
  have hcz : w1.heap.size ≤ w2.heap.size := by have := HJ2.out.lt.1; omega
  clear HI1 HK1
  go_wp2_with fail
  go_at_call 22
  refine (number_300 w1.heap.size _ HJ2.out).mono ?_
  rintro e w3 ⟨rfl, D3⟩
  obtain ⟨go3, J3, K3, _⟩ := D3
  have HI3 : Hid (InkAt w3 115 w.heap.size none (clamp most) []) := HI2.out.kept K3 (fun e => by rcases e with e | e; omega; cases e) (fun g hg => by cases hg)
  have HK3 : Hid (Keeps w w3 (fun _ => False)) := HK2.out.trans K3 (fun j hj e => by rcases e with e | e; omega; cases e)
  have HJ3 : Hid (InkAt w3 115 w1.heap.size go3 1 [44]) := J3
  clear HI2 HJ2 HK2 J3 K3 hcz
  go_wp2_with fail
  go_at_call 23
  refine (bytes_any w1.heap.size go3 1 [44] _ HJ3.out (by decide)).mono ?_
  rintro e w4 ⟨rfl, hO4, hB4⟩
  have HI4 : Hid (InkAt w4 115 w.heap.size none (clamp most) []) := HI3.out.kept (Keeps.below_none hB4) id (fun _ _ => id)
  have HK4 : Hid (Keeps w w4 (fun _ => False)) := HK3.out.trans (Keeps.below_none hB4) fun _ _ h => h
  have hc4 : w4.cell? ⟨w3.heap.size, 0, none⟩ = some (.int .u8 44) := hO4.cell (j := 0) rfl
  clear HI3 HK3 HJ3 hO4 hB4 hPlt
  go_wp2_with fail
  go_at_call 24
  refine (rnewInk_any most _).mono ?_
  rintro e w5 ⟨rfl, hw5⟩
  have HP5 : Hid (Pair w w5 w.heap.size w4.heap.size none none (clamp most) [] []) := by
    rw [hw5]
    have hb := clamp_bd most
    exact ⟨HI4.out.kept (Keeps.none_alloc w4 _) id (fun _ _ => id), InkAt.new w4 117 _, Nat.ne_of_lt HI4.out.lt.1, (fun _ h => by cases h), Nat.le_refl _, HK4.out.size, (fun _ h => by cases h), (fun _ h => by cases h), HK4.out.trans (Keeps.none_alloc w4 _) fun _ _ h => h, ⟨hb.1, hb.2, by simpa using hb.1⟩, ⟨hb.1, hb.2, by simpa using hb.1⟩⟩
  obtain ⟨R, hR⟩ : ∃ R, R = w4.heap.size := ⟨_, rfl⟩
  clear HI4 HK4 hw5
  rw [← hR] at HP5 ⊢
  clear hR
  go_wp2
  clear hc4
  go_loopw [10] (fun i wr => ∃ k : Nat, k ≤ len ∧ i = .int .i64 k ∧ Hid (∃ go gr bs, Pair w wr w.heap.size R go gr (clamp most) bs bs)) (fun i _ => len - (intOf i).toNat)
  case atStart => exact ⟨0, Nat.zero_le _, rfl, none, none, [], HP5.out⟩
  case round =>
    clear HP5
    obtain ⟨k, hk, rfl, HP⟩ := hrel
    by_cases hlt : k < len
    · obtain ⟨rfl, hb⟩ := HAO.out (by omega)
      obtain ⟨go, gr, bs, hp⟩ := HP.out
      clear HP HAO
      obtain ⟨o0, o1, o2, o3, hx0, hx1, hs⟩ := HO.out k hlt
      obtain ⟨kd, hkd⟩ : ∃ kd, kd = (ops k).kind := ⟨_, rfl⟩
      obtain ⟨x, hx⟩ : ∃ x, x = (ops k).x := ⟨_, rfl⟩
      obtain ⟨n, hn⟩ : ∃ n, n = (ops k).n := ⟨_, rfl⟩
      obtain ⟨t, ht⟩ : ∃ t, t = (ops k).s := ⟨_, rfl⟩
      rw [← hkd] at o0
      rw [← hx] at o1 hx0 hx1
      rw [← hn] at o2
      rw [← ht] at o3 hs
      clear hkd hx hn ht
      have c0 := (hp.keep.cell (p := ⟨b, off + k * 4, none⟩) hb id).trans o0
      have c1 := (hp.keep.cell (p := ⟨b, off + k * 4 + 1, none⟩) hb id).trans o1
      have c2 := (hp.keep.cell (p := ⟨b, off + k * 4 + 2, none⟩) hb id).trans o2
      have c3 := (hp.keep.cell (p := ⟨b, off + k * 4 + 3, none⟩) hb id).trans o3
      clear o0 o1 o2 o3
      have HQ : Hid (Pair w wr w.heap.size R go gr (clamp most) bs bs) := hp
      clear hp
      by_cases h1 : kd = 1
      · subst h1
        go_wp2_with fail
        go_at_call 22
        refine (number_all w.heap.size go (clamp most) bs x n _ (HQ.out.kept (Keeps.none_alloc wr _)).ik HQ.out.okk).mono ?_
        rintro e w1 ⟨rfl, D1⟩
        obtain ⟨HP1, b1, b2, b3⟩ := HQ.out.call D1 (numR_ok _ _ HQ.out.okk)
        clear D1
        obtain ⟨go1, hp1⟩ := HP1.out
        have HQ1 : Hid (Pair w w1 w.heap.size R go1 gr (clamp most) (numR (clamp most) bs x n).2 bs) := hp1
        clear hp1 HP1
        go_wp2_with fail
        go_at_call 25
        refine (rnumber_all R gr (clamp most) bs x n _ HQ1.out.ir HQ1.out.okr hx0 hx1).mono ?_
        rintro e w2 ⟨rfl, D2⟩
        obtain ⟨gr2, hp2⟩ := HQ1.out.right D2 (numR_ok _ _ HQ1.out.okr)
        have HQ2 : Hid (Pair w w2 w.heap.size R go1 gr2 (clamp most) (numR (clamp most) bs x n).2 (numR (clamp most) bs x n).2) := hp2
        clear D2 hp2 HQ1
        go_wp2
        go_roundw
        case rel => exact ⟨k + 1, by omega, by go_num, go1, gr2, _, HQ2.out⟩
        case measure => simp [intOf]; omega
      by_cases h2 : kd = 2
      · subst h2
        go_wp2_with fail
        go_at_call 26
        refine (text_all w.heap.size go (clamp most) bs t _ (HQ.out.kept (Keeps.none_alloc wr _)).ik HQ.out.okk).mono ?_
        rintro e w1 ⟨rfl, D1⟩
        obtain ⟨HP1, b1, b2, b3⟩ := HQ.out.call D1 (textR_ok _ HQ.out.okk)
        clear D1
        obtain ⟨go1, hp1⟩ := HP1.out
        have HQ1 : Hid (Pair w w1 w.heap.size R go1 gr (clamp most) (textR (clamp most) bs t).2 bs) := hp1
        clear hp1 HP1
        go_wp2_with fail
        go_at_call 27
        refine (rtext_all R gr (clamp most) bs t _ HQ1.out.ir HQ1.out.okr hs).mono ?_
        rintro e w2 ⟨rfl, D2⟩
        obtain ⟨gr2, hp2⟩ := HQ1.out.right D2 (textR_ok _ HQ1.out.okr)
        have HQ2 : Hid (Pair w w2 w.heap.size R go1 gr2 (clamp most) (textR (clamp most) bs t).2 (textR (clamp most) bs t).2) := hp2
        clear D2 hp2 HQ1
        go_wp2
        go_roundw
        case rel => exact ⟨k + 1, by omega, by go_num, go1, gr2, _, HQ2.out⟩
        case measure => simp [intOf]; omega
      by_cases h3 : kd = 3
      · subst h3
        go_wp2_with fail
        go_at_call 28
        refine (fill_all w.heap.size go (clamp most) bs n (x % 256) _ (HQ.out.kept (Keeps.none_alloc wr _)).ik HQ.out.okk).mono ?_
        rintro e w1 ⟨rfl, D1⟩
        obtain ⟨HP1, b1, b2, b3⟩ := HQ.out.call D1 (fillR_ok _ _ HQ.out.okk)
        clear D1
        obtain ⟨go1, hp1⟩ := HP1.out
        have HQ1 : Hid (Pair w w1 w.heap.size R go1 gr (clamp most) (fillR (clamp most) bs n (x % 256)).2 bs) := hp1
        clear hp1 HP1
        go_wp2_with fail
        go_at_call 29
        refine (rfill_all R gr (clamp most) bs n (x % 256) _ HQ1.out.ir HQ1.out.okr).mono ?_
        rintro e w2 ⟨rfl, D2⟩
        obtain ⟨gr2, hp2⟩ := HQ1.out.right D2 (fillR_ok _ _ HQ1.out.okr)
        have HQ2 : Hid (Pair w w2 w.heap.size R go1 gr2 (clamp most) (fillR (clamp most) bs n (x % 256)).2 (fillR (clamp most) bs n (x % 256)).2) := hp2
        clear D2 hp2 HQ1
        go_wp2
        go_roundw
        case rel => exact ⟨k + 1, by omega, by go_num, go1, gr2, _, HQ2.out⟩
        case measure => simp [intOf]; omega
      by_cases h4 : kd = 4
      · subst h4
        go_wp2_with fail
        go_at_call 30
        refine (pad_all w.heap.size go (clamp most) bs n _ (HQ.out.kept (Keeps.none_alloc wr _)).ik HQ.out.okk).mono ?_
        rintro e w1 ⟨rfl, D1⟩
        obtain ⟨HP1, b1, b2, b3⟩ := HQ.out.call D1 (padR_ok _ HQ.out.okk)
        clear D1
        obtain ⟨go1, hp1⟩ := HP1.out
        have HQ1 : Hid (Pair w w1 w.heap.size R go1 gr (clamp most) (padR (clamp most) bs n).2 bs) := hp1
        clear hp1 HP1
        go_wp2_with fail
        go_at_call 31
        refine (rpad_all R gr (clamp most) bs n _ HQ1.out.ir HQ1.out.okr).mono ?_
        rintro e w2 ⟨rfl, D2⟩
        obtain ⟨gr2, hp2⟩ := HQ1.out.right D2 (padR_ok _ HQ1.out.okr)
        have HQ2 : Hid (Pair w w2 w.heap.size R go1 gr2 (clamp most) (padR (clamp most) bs n).2 (padR (clamp most) bs n).2) := hp2
        clear D2 hp2 HQ1
        go_wp2
        go_roundw
        case rel => exact ⟨k + 1, by omega, by go_num, go1, gr2, _, HQ2.out⟩
        case measure => simp [intOf]; omega
      have g1 : (kd == 1) = false := by simpa using h1
      have g2 : (kd == 2) = false := by simpa using h2
      have g3 : (kd == 3) = false := by simpa using h3
      have g4 : (kd == 4) = false := by simpa using h4
      clear h1 h2 h3 h4
      by_cases h5 : kd = 5
      · subst h5
        go_wp2_with fail
        go_at_call 32
        refine (inked_all w.heap.size R go gr (clamp most) (clamp most) bs _ (HQ.out.kept (Keeps.none_alloc wr _)).ik (HQ.out.kept (Keeps.none_alloc wr _)).ir (by have := HQ.out.okk.2.1; have := HQ.out.okk.2.2; omega)).mono ?_
        rintro e w1 ⟨rfl, K1⟩
        have HQ2 : Hid (Pair w w1 w.heap.size R go gr (clamp most) bs bs) := (HQ.out.kept (Keeps.none_alloc wr _)).kept K1
        clear K1
        go_wp2
        go_roundw
        case rel => exact ⟨k + 1, by omega, by go_num, go, gr, _, HQ2.out⟩
        case measure => simp [intOf]; omega
      · have g5 : (kd == 5) = false := by simpa using h5
        clear h5
        go_wp2
        go_roundw
        case rel => exact ⟨k + 1, by omega, by go_num, go, gr, _, HQ.out.kept (Keeps.none_alloc wr _)⟩
        case measure => simp [intOf]; omega
    · obtain rfl : k = len := by omega
      obtain ⟨go, gr, bs, hp⟩ := HP.out
      have HQ : Hid (Pair w wr w.heap.size R go gr (clamp most) bs bs) := hp
      clear HP hp
      go_wp2_with fail
      go_at_call 32
      refine (inked_all w.heap.size R go gr (clamp most) (clamp most) bs _ HQ.out.ik HQ.out.ir (by have := HQ.out.okk.2.1; have := HQ.out.okk.2.2; omega)).mono ?_
      rintro e w1 ⟨rfl, K1⟩
      have HQ2 : Hid (Pair w w1 w.heap.size R go gr (clamp most) bs bs) := HQ.out.kept K1
      clear K1
      go_wp2
      go_ret
      exact ⟨rfl, HQ2.out.keep.below (fun _ _ h => h.elim) (Nat.le_refl _)⟩
end Go.Proofs.Ytomlndoffoeaiaa.Kit
