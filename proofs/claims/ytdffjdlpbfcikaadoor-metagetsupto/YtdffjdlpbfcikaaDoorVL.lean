import Derived.Test.YtdffjdlpbfcikaaDoorVK
import Derived.Deep.RegionHeld3
namespace Go.Proofs.YtdffjdlpbfcikaaDoor.Kit
open Go.RowKit Go.Shelf Go.Deep
set_option linter.unusedVariables false
attribute [local go_sem] run_store_func

/-! ### the program's ink -/
structure InkAt (w W : World) (K : Nat) (bs : List UInt8) : Prop where
  gr : Gr w W
  k0 : w.heap.size ≤ K
  ex : ∃ vo n vc, W.heap[K]? = some (.cells #[.slice vo n vc, .int .i64 65536] 88) ∧ W.ownsRow 0 5 1 (.slice vo n vc) n (bv bs) ∧ ∀ g, (Value.slice vo n vc).ownBlock = some g → w.heap.size ≤ g
/-- blocks that hold no bytes stay -/
def KU (K : Nat) (W w' : World) : Prop := W.heap.size ≤ w'.heap.size ∧ ∀ b c t, W.heap[b]? = some (.cells c t) → t ≠ 5 → b ≠ K → w'.heap[b]? = some (.cells c t)
theorem KU.trans {K : Nat} {A B C : World} (h : KU K A B) (k : KU K B C) : KU K A C := ⟨Nat.le_trans h.1 k.1, fun b c t hb ht hn => k.2 b c t (h.2 b c t hb ht hn) ht hn⟩
theorem KU.keeps {K : Nat} {A B : World} (k : Keeps A B (fun b => b = K)) : KU K A B := ⟨k.size, fun b c t hb _ hn => (k.block b (lt_of_heap hb) hn).trans hb⟩
theorem KU.gr {K : Nat} {A B : World} (k : Gr A B) : KU K A B := KU.keeps (k.mono fun _ _ f => f.elim)
theorem row5_ne {W : World} {t n B : Nat} {v : Value} {xs : List Value} {c : Array Value} (h : W.ownsRow 0 5 1 v n xs) (hB : W.heap[B]? = some (.cells c t)) (ht : t ≠ 5) : v.ownBlock ≠ some B := fun e => by
  rcases h.2 with ⟨rfl, _⟩ | ⟨g, cap, cur, rfl, _, hg, _⟩
  · simp [Value.ownBlock] at e
  · simp [Value.ownBlock] at e
    subst e
    rw [hg] at hB
    simp at hB
    exact ht hB.2.symm
theorem KU.row {K : Nat} {A B : World} {v : Value} {n : Nat} {xs : List Value} (hr : A.ownsRow 0 5 1 v n xs) (k : Keeps A B (fun b => v.ownBlock = some b)) : KU K A B :=
  ⟨k.size, fun b c t hb ht hn => (k.block b (lt_of_heap hb) (row5_ne hr hb ht)).trans hb⟩
theorem InkAt.kept {w W W' : World} {K : Nat} {bs : List UInt8} (h : InkAt w W K bs) (g : Gr W W') : InkAt w W' K bs := by
  obtain ⟨vo, n, vc, h1, h2, h3⟩ := h.ex
  exact ⟨h.gr.trans g (fun _ _ h => h), h.k0, vo, n, vc, (g.block K (lt_of_heap h1) id).trans h1, own_kp h2 fun b e => g.block b (own_lt h2 b e) id, h3⟩
set_option maxRecDepth 100000 in
set_option maxHeartbeats 2000000 in
theorem newInk_any (W : World) : Calls Tryd.prog 23 #[.int .i64 65536] W fun e w' => e = .returned (.pointer (some ⟨W.heap.size, 0, none⟩)) ∧ w' = W.alloc (.cells #[.slice none 0 0, .int .i64 65536] 88) := by
  go_enter Tryd.func23, Tryd.ntmps23
  go_wp2
  go_ret
  exact ⟨rfl, rfl⟩
set_option maxRecDepth 100000 in
set_option maxHeartbeats 2000000 in
theorem isWidth_any (wd : Nat) (h : wd = 1 ∨ wd = 2 ∨ wd = 4) (W : World) : Calls Tryd.prog 70 #[.int .i64 (wd : Int)] W fun e w' => e = .returned (.bool true) ∧ W = w' := by
  rcases h with rfl | rfl | rfl
  all_goals
    go_enter Tryd.func70, Tryd.ntmps70
    go_wp2
    go_ret
    exact ⟨rfl, rfl⟩
set_option maxRecDepth 100000 in
set_option maxHeartbeats 2000000 in
theorem takes_any {w W : World} {K : Nat} {bs : List UInt8} (h : InkAt w W K bs) (m : Nat) (hm : bs.length + m ≤ 65536) : Calls Tryd.prog 71 #[.pointer (some ⟨K, 0, none⟩), .int .i64 (m : Int)] W fun e w' => e = .returned (.bool true) ∧ Gr W w' := by
  obtain ⟨vo, n, vc, h1, h2, -⟩ := h.ex
  have hl : bs.length = n := by have := h2.1; simpa [bv] using this
  have hle : (m : Int) ≤ 65536 - (n : Int) := by omega
  have hwr : IntKind.i64.wrap (65536 - (n : Int)) = 65536 - (n : Int) := by rw [IntKind.wrap_i64]; omega
  obtain ⟨d0, d1⟩ := ce2 h1
  have HIN : Hid (Hid (Gr W W.drew) ∧ W.drew.cell? ⟨K, 1, none⟩ = some (.int .i64 65536) ∧ W.drew.cell? ⟨K, 0, none⟩ = some (.slice vo n vc)) := ⟨gr_drew, d1, d0⟩
  clear h h1 h2 hl hm d0 d1
  go_enter Tryd.func71, Tryd.ntmps71
  go_wp2_with fail
  refine wp_region_held_drew (S := fun w' => Hid (Gr W w') ∧ w'.cell? ⟨K, 1, none⟩ = some (.int .i64 65536) ∧ w'.cell? ⟨K, 0, none⟩ = some (.slice vo n vc)) (by kernel_rfl) (HIN.out) (fun hHeld => ?_)
  refine wpAnyH_take (i := 0) (oi := { dst := some 5, op := Op.move (Operand.tmp 1), type := 3, pos := "ink.go:60", after := #[], guard := none }) (v := ?v0a1) rfl (by kernel_rfl) (by kernel_rfl) (by kernel_rfl) (fun _ _ _ h => h) (Or.inl ⟨by rfl, ?y0a1⟩) (by assumption) ?r0a1
  case y0a1 => (intro w hSw; obtain ⟨-, s1, s2⟩ := hSw; go_simp; (try with_reducible rfl))
  (try simp only [Act.put]); (try simp only [List.setIfInBounds_toArray]); (try simp only [List.set_cons_succ]); (try simp only [List.set_cons_zero])
  refine wpAnyH_take (i := 1) (oi := { dst := some 6, op := Op.move (Operand.tmp 0), type := 66, pos := "ink.go:60", after := #[], guard := none }) (v := ?v1a2) rfl (by kernel_rfl) (by kernel_rfl) (by kernel_rfl) (fun _ _ _ h => h) (Or.inl ⟨by rfl, ?y1a2⟩) (by assumption) ?r1a2
  case y1a2 => (intro w hSw; obtain ⟨-, s1, s2⟩ := hSw; go_simp; (try with_reducible rfl))
  (try simp only [Act.put]); (try simp only [List.setIfInBounds_toArray]); (try simp only [List.set_cons_succ]); (try simp only [List.set_cons_zero])
  refine wpAnyH_take (i := 2) (oi := { dst := some 7, op := Op.nilCheck (Operand.tmp 6), type := 0, pos := "ink.go:60", after := #[{ on := 1, ground := Ground.data }], guard := none }) (v := ?v2a3) rfl (by kernel_rfl) (by kernel_rfl) (by kernel_rfl) (fun _ _ _ h => h) (Or.inl ⟨by rfl, ?y2a3⟩) (by assumption) ?r2a3
  case y2a3 => (intro w hSw; obtain ⟨-, s1, s2⟩ := hSw; go_simp; (try with_reducible rfl))
  (try simp only [Act.put]); (try simp only [List.setIfInBounds_toArray]); (try simp only [List.set_cons_succ]); (try simp only [List.set_cons_zero])
  refine wpAnyH_take (i := 3) (oi := { dst := some 8, op := Op.fieldAddr 88 (Operand.tmp 7) 1, type := 0, pos := "ink.go:60", after := #[{ on := 2, ground := Ground.data }], guard := none }) (v := ?v3a4) rfl (by kernel_rfl) (by kernel_rfl) (by kernel_rfl) (fun _ _ _ h => h) (Or.inl ⟨by rfl, ?y3a4⟩) (by assumption) ?r3a4
  case y3a4 => (intro w hSw; obtain ⟨-, s1, s2⟩ := hSw; go_simp; (try with_reducible rfl))
  (try simp only [Act.put]); (try simp only [List.setIfInBounds_toArray]); (try simp only [List.set_cons_succ]); (try simp only [List.set_cons_zero])
  refine wpAnyH_take (i := 4) (oi := { dst := some 9, op := Op.load 3 (Operand.tmp 8), type := 3, pos := "ink.go:60", after := #[{ on := 3, ground := Ground.data }], guard := none }) (v := ?v4a5) rfl (by kernel_rfl) (by kernel_rfl) (by kernel_rfl) (fun _ _ _ h => h) (Or.inl ⟨by rfl, ?y4a5⟩) (by assumption) ?r4a5
  case y4a5 => (intro w hSw; obtain ⟨-, s1, s2⟩ := hSw; go_simp; (try with_reducible rfl))
  (try simp only [Act.put]); (try simp only [List.setIfInBounds_toArray]); (try simp only [List.set_cons_succ]); (try simp only [List.set_cons_zero])
  refine wpAnyH_take (i := 5) (oi := { dst := some 10, op := Op.move (Operand.tmp 0), type := 66, pos := "ink.go:60", after := #[], guard := none }) (v := ?v5a6) rfl (by kernel_rfl) (by kernel_rfl) (by kernel_rfl) (fun _ _ _ h => h) (Or.inl ⟨by rfl, ?y5a6⟩) (by assumption) ?r5a6
  case y5a6 => (intro w hSw; obtain ⟨-, s1, s2⟩ := hSw; go_simp; (try with_reducible rfl))
  (try simp only [Act.put]); (try simp only [List.setIfInBounds_toArray]); (try simp only [List.set_cons_succ]); (try simp only [List.set_cons_zero])
  refine wpAnyH_take (i := 6) (oi := { dst := some 11, op := Op.nilCheck (Operand.tmp 10), type := 0, pos := "ink.go:60", after := #[{ on := 5, ground := Ground.data }], guard := none }) (v := ?v6a7) rfl (by kernel_rfl) (by kernel_rfl) (by kernel_rfl) (fun _ _ _ h => h) (Or.inl ⟨by rfl, ?y6a7⟩) (by assumption) ?r6a7
  case y6a7 => (intro w hSw; obtain ⟨-, s1, s2⟩ := hSw; go_simp; (try with_reducible rfl))
  (try simp only [Act.put]); (try simp only [List.setIfInBounds_toArray]); (try simp only [List.set_cons_succ]); (try simp only [List.set_cons_zero])
  refine wpAnyH_take (i := 7) (oi := { dst := some 12, op := Op.fieldAddr 88 (Operand.tmp 11) 0, type := 0, pos := "ink.go:60", after := #[{ on := 6, ground := Ground.data }], guard := none }) (v := ?v7a8) rfl (by kernel_rfl) (by kernel_rfl) (by kernel_rfl) (fun _ _ _ h => h) (Or.inl ⟨by rfl, ?y7a8⟩) (by assumption) ?r7a8
  case y7a8 => (intro w hSw; obtain ⟨-, s1, s2⟩ := hSw; go_simp; (try with_reducible rfl))
  (try simp only [Act.put]); (try simp only [List.setIfInBounds_toArray]); (try simp only [List.set_cons_succ]); (try simp only [List.set_cons_zero])
  refine wpAnyH_take (i := 8) (oi := { dst := some 13, op := Op.load 22 (Operand.tmp 12), type := 22, pos := "ink.go:60", after := #[{ on := 7, ground := Ground.data }], guard := none }) (v := ?v8a9) rfl (by kernel_rfl) (by kernel_rfl) (by kernel_rfl) (fun _ _ _ h => h) (Or.inl ⟨by rfl, ?y8a9⟩) (by assumption) ?r8a9
  case y8a9 => (intro w hSw; obtain ⟨-, s1, s2⟩ := hSw; go_simp; (try with_reducible rfl))
  (try simp only [Act.put]); (try simp only [List.setIfInBounds_toArray]); (try simp only [List.set_cons_succ]); (try simp only [List.set_cons_zero])
  refine wpAnyH_take (i := 9) (oi := { dst := some 14, op := Op.call { callee := Callee.builtin Builtin.len, args := #[Operand.tmp 13], argTypes := #[22] }, type := 3, pos := "ink.go:60", after := #[{ on := 8, ground := Ground.data }], guard := none }) (v := ?v9a10) rfl (by kernel_rfl) (by kernel_rfl) (by kernel_rfl) (fun _ _ _ h => h) (Or.inl ⟨by rfl, ?y9a10⟩) (by assumption) ?r9a10
  case y9a10 => (intro w hSw; obtain ⟨-, s1, s2⟩ := hSw; go_simp; (try with_reducible rfl))
  (try simp only [Act.put]); (try simp only [List.setIfInBounds_toArray]); (try simp only [List.set_cons_succ]); (try simp only [List.set_cons_zero])
  refine wpAnyH_take (i := 10) (oi := { dst := some 15, op := Op.binOp BinOp.sub 3 (Operand.tmp 9) (Operand.tmp 14) 3, type := 3, pos := "ink.go:60", after := #[{ on := 4, ground := Ground.data }, { on := 9, ground := Ground.data }], guard := none }) (v := ?v10a11) rfl (by kernel_rfl) (by kernel_rfl) (by kernel_rfl) (fun _ _ _ h => h) (Or.inl ⟨by rfl, ?y10a11⟩) (by assumption) ?r10a11
  case y10a11 => (intro w hSw; obtain ⟨-, s1, s2⟩ := hSw; go_simp; (try with_reducible rfl))
  (try simp only [Act.put]); (try simp only [List.setIfInBounds_toArray]); (try simp only [List.set_cons_succ]); (try simp only [List.set_cons_zero])
  refine wpAnyH_take (i := 11) (oi := { dst := some 16, op := Op.binOp BinOp.leq 3 (Operand.tmp 5) (Operand.tmp 15) 3, type := 4, pos := "ink.go:60", after := #[{ on := 0, ground := Ground.data }, { on := 10, ground := Ground.data }], guard := none }) (v := ?v11a12) rfl (by kernel_rfl) (by kernel_rfl) (by kernel_rfl) (fun _ _ _ h => h) (Or.inl ⟨by rfl, ?y11a12⟩) (by assumption) ?r11a12
  case y11a12 => (intro w hSw; obtain ⟨-, s1, s2⟩ := hSw; go_simp; (try with_reducible rfl))
  (try simp only [Act.put]); (try simp only [List.setIfInBounds_toArray]); (try simp only [List.set_cons_succ]); (try simp only [List.set_cons_zero])
  refine wpAnyH_take (i := 12) (oi := { dst := some 4, op := Op.assign (Operand.tmp 16), type := 4, pos := "ink.go:60", after := #[{ on := 11, ground := Ground.data }, { on := 0, ground := Ground.phase }, { on := 1, ground := Ground.phase }, { on := 2, ground := Ground.phase }, { on := 3, ground := Ground.phase }, { on := 4, ground := Ground.phase }, { on := 5, ground := Ground.phase }, { on := 6, ground := Ground.phase }, { on := 7, ground := Ground.phase }, { on := 8, ground := Ground.phase }, { on := 9, ground := Ground.phase }, { on := 10, ground := Ground.phase }, { on := 11, ground := Ground.phase }], guard := none }) (v := ?v12a13) rfl (by kernel_rfl) (by kernel_rfl) (by kernel_rfl) (fun _ _ _ h => h) (Or.inl ⟨by rfl, ?y12a13⟩) (by assumption) ?r12a13
  case y12a13 => (intro w hSw; obtain ⟨-, s1, s2⟩ := hSw; go_simp; (try with_reducible rfl))
  (try simp only [Act.put]); (try simp only [List.setIfInBounds_toArray]); (try simp only [List.set_cons_succ]); (try simp only [List.set_cons_zero])
  refine wpAnyH_done (by kernel_rfl) ?_ _
  have HG := hidM hHeld.1.out
  clear hHeld HIN
  go_wp2_with fail
  go_ret
  exact ⟨rfl, HG.out⟩
/-- the ink behind an append -/
theorem InkAt.next {w W W1 : World} {K : Nat} {bs us : List UInt8} {vo vo' : Option Addr} {n vc m vc' : Nat} (h : InkAt w W K bs) (hK : W.heap[K]? = some (.cells #[.slice vo n vc, .int .i64 65536] 88)) (hp : Ap w W W1 vo vc n vo' vc' m (bs ++ us)) :
    W1.heap[K]? = some (.cells #[.slice vo n vc, .int .i64 65536] 88) ∧ InkAt w (W1.setCell ⟨K, 0, none⟩ (.slice vo' m vc')) K (bs ++ us) ∧ KU K W (W1.setCell ⟨K, 0, none⟩ (.slice vo' m vc')) := by
  obtain ⟨vo2, n2, vc2, h1, h2, h3⟩ := h.ex
  have e : (#[.slice vo n vc, .int .i64 65536] : Array Value) = #[.slice vo2 n2 vc2, .int .i64 65536] := by rw [hK] at h1; simpa using h1
  have e' : Value.slice vo n vc = Value.slice vo2 n2 vc2 := by simpa using e
  have hrow : W.ownsRow 0 5 1 (.slice vo n vc) n (bv bs) := by cases e'; exact h2
  have hne := row5_ne hrow hK (by decide)
  obtain ⟨b1, b2⟩ := hp.box hK hne
  have kk := keep1 (j := 0) (Keeps.refl W1 (fun b => b = K)) (.slice vo' m vc')
  have hKs : (W1.setCell ⟨K, 0, none⟩ (.slice vo' m vc')).heap[K]? = some (.cells #[.slice vo' m vc', .int .i64 65536] 88) := (setc (j := 0) b1 (.slice vo' m vc')).trans (by simp)
  refine ⟨b1, ⟨hp.b.gr.trans kk (fun j hj h' => by have := h.k0; omega), h.k0, vo', m, vc', hKs, own_kp hp.b.own fun b eb => kk.block b (own_lt hp.b.own b eb) (fun hb => b2 (by rw [eb, hb])), hp.b.new⟩, ?_⟩
  exact (KU.row hrow hp.kp).trans (KU.keeps kk)
set_option maxRecDepth 100000 in
set_option maxHeartbeats 2000000 in
theorem inkText_any {w W : World} {K : Nat} {bs : List UInt8} (h : InkAt w W K bs) (s : ByteArray) (hm : bs.length + s.size ≤ 65536) : Calls Tryd.prog 73 #[.pointer (some ⟨K, 0, none⟩), .string s] W fun e w' => e = .returned (.int .i64 0) ∧ InkAt w w' K (bs ++ s.data.toList) ∧ KU K W w' := by
  have H41 := hidM (takes_any h s.size hm)
  have HI := hidM h
  clear h
  go_enter Tryd.func73, Tryd.ntmps73
  go_wp2_with (go_at_call 71; refine Hid.out ?_)
  unfold Hid
  refine Calls.mono H41.out ?_
  rintro e W1 ⟨rfl, hg1⟩
  have HI1 := hidM (HI.out.kept hg1)
  have HU1 := hidM (KU.gr (K := K) hg1)
  clear hg1 H41
  obtain ⟨vo, n, vc, h1, h2, h3⟩ := HI1.out.ex
  have hl : bs.length = n := by have := h2.1; simpa [bv] using this
  have HB : Hid (Byts w W1 vo vc n bs) := ⟨h2, HI1.out.gr, h3⟩
  have HK := hidM h1
  obtain ⟨d0, d1⟩ := ce2 h1
  clear h1 h2 h3
  go_wp2_with (at_builtin; refine Hid.out ?_)
  unfold Hid
  refine wpList_append_any _ rfl (.tmp 14) (.tmp 15) 22 9 rfl 5 (.int .u8 0) 1 Tryd.underlying22 info5 rfl _ n (bv bs) rfl HB.out.own _ s.size (byteCells s) rfl (Src.ofString _ Tryd.underlying9 s) (by omega) (by omega) ?_
  intro v' w1 hown hgrow hblk
  obtain ⟨vo2, vc2, rfl⟩ := own_form1 hown
  have hp := HB.out.app (us := s.data.toList) rfl hown hgrow hblk
  obtain ⟨k1, k2, k3⟩ := HI1.out.next HK.out hp
  have HF := hidM (And.intro k2 (HU1.out.trans k3))
  have z0 := (ce2 k1).1
  have z1 := frz k1 0
  clear hown hgrow hblk hp k1 k2 k3 d0 d1
  go_wp2_with fail
  go_ret
  exact ⟨rfl, HF.out⟩
end Go.Proofs.YtdffjdlpbfcikaaDoor.Kit
