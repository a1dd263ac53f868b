import Derived.Test.YteggcdhibcjneaaGreatDoorCT
set_option maxRecDepth 100000
set_option maxHeartbeats 4000000
namespace Go.Proofs.YteggcdhibcjneaaGreatDoor.Kit
variable {nx : Bool}
open Go.RowKit Go.Shelf Go.Deep
open Go.Proofs.YteggcdhibcjneaaGreatDoor.Kd (Ans AnsV cell5 cell2)
open Go.Proofs.YteggcdhibcjneaaGreatDoor.Ink (OwnRow)
set_option linter.unusedVariables false
set_option linter.unusedSimpArgs false
attribute [local go_sem] run_store_func

attribute [local go_sem] Oper.semAt_some
theorem frzA {W : World} {b ty : Nat} {c : Array Value} (h : W.heap[b]? = some (.cells c ty)) : ∀ j, W.frozen? ⟨b, j, none⟩ = false := fun j => frz h j
theorem all35 (a : Nat) (W : World) : Calls Tryz.prog 69 #[.pointer (some ⟨a, 0, none⟩)] W fun e w' => e = .returned (.func (.func 91) #[] #[.pointer (some ⟨W.heap.size, 0, none⟩)]) ∧ w' = W.alloc (.cells #[.pointer (some ⟨a, 0, none⟩)] 110) := by
  have hmf : ∀ (fn : Fn) (first cap : Array Value) (w : World), (Instr.makeFunc fn first cap).run Tryz.prog w = .ok (.func fn first cap) w := fun _ _ _ _ => rfl
  go_enter Tryz.func69, Tryz.ntmps69
  go_wp2_with fail
  go_ret
  exact ⟨rfl, rfl⟩
theorem values19 (a : Nat) (W : World) (q r rc : Nat) (nu : Bool) (ao : Option Addr) (ca L : Nat) (v2 n2 c2 : Nat) (xs : Nat → Int) (hL : L = 2 ∨ L = 3) (hC0 : ∀ u, Gr W u → ∀ ab, u.heap[ab]? = some (.cells #[.pointer (some ⟨a, 0, none⟩)] 110) → ArrC nx u q r rc nu ao ca L v2 n2 c2 ab a xs) (ha : W.heap[a]? = some (.cells #[.pointer (some ⟨q, 0, none⟩), .int .i64 0, .int .i64 L, .pointer none] 146)) (hq : q < W.heap.size) (hr : r < W.heap.size) (hv2 : v2 < W.heap.size) :
    Calls Tryz.prog 50 #[.pointer (some ⟨a, 0, none⟩)] W fun e w' => ∃ g, e = .returned (.slice (some ⟨g, 0, none⟩) L L) ∧ Gr W w' ∧ W.heap.size ≤ g ∧ w'.heap[g]? = some (.cells (rowK xs L L) 86) := by
  obtain ⟨g, hg⟩ : ∃ g, W.heap.size = g := ⟨_, rfl⟩
  obtain ⟨A0, hA0⟩ : ∃ A0, W.alloc (.cells (rowK xs L 0) 86) = A0 := ⟨_, rfl⟩
  have g0 : Gr W A0 := by rw [← hA0]; exact gr_alloc W _
  have b0 : A0.heap[g]? = some (.cells (rowK xs L 0) 86) := by rw [← hA0, ← hg]; exact heap_alloc_new W _
  obtain ⟨A1, hA1⟩ : ∃ A1, A0.alloc (.cells #[.slice (some ⟨g, 0, none⟩) 0 L] 58) = A1 := ⟨_, rfl⟩
  have g1 : Gr A0 A1 := by rw [← hA1]; exact gr_alloc A0 _
  have b1 : A1.heap[A0.heap.size]? = some (.cells #[.slice (some ⟨g, 0, none⟩) 0 L] 58) := by rw [← hA1]; exact heap_alloc_new A0 _
  obtain ⟨A2, hA2⟩ : ∃ A2, A1.alloc (.cells #[.pointer (some ⟨a, 0, none⟩)] 110) = A2 := ⟨_, rfl⟩
  have g2 : Gr A1 A2 := by rw [← hA2]; exact gr_alloc A1 _
  have b2 : A2.heap[A1.heap.size]? = some (.cells #[.pointer (some ⟨a, 0, none⟩)] 110) := by rw [← hA2]; exact heap_alloc_new A1 _
  have g12 := g1.trans g2 (fun _ _ h => h)
  have gW : Gr W A2 := g0.trans g12 (fun _ _ h => h)
  have z0 : A0.heap.size = g + 1 := by rw [← hA0, ← hg]; simp
  have z1 : A1.heap.size = A0.heap.size + 1 := by rw [← hA1]; simp
  have z2 : A2.heap.size = A1.heap.size + 1 := by rw [← hA2]; simp
  have hal := lt_of_heap ha
  have hseq := all48_seq (10 - 1) A2 q r rc nu ao ca L v2 n2 c2 A1.heap.size a xs (fun b => b < A2.heap.size ∧ b ≠ g ∧ b ≠ A0.heap.size) (fun b h => h.1) (hC0 A2 gW _ b2) ⟨by omega, by omega, by omega⟩ ⟨by omega, by omega, by omega⟩ ⟨by omega, by omega, by omega⟩ ⟨by omega, by omega, by omega⟩ ⟨by omega, by omega, by omega⟩
  have h0 : ValI xs L W g A0.heap.size [] A2 := ⟨0, by omega, rfl, gW, (g12.block _ (lt_of_heap b0) id).trans b0, (g2.block _ (lt_of_heap b1) id).trans b1⟩
  obtain ⟨a0, a1, a2, a3⟩ := cell4 ha
  have HSeq := hidM hseq
  have H0 := hidM h0
  have hmk : ∀ w : World, (Instr.makeSlice 58 (.int .i64 0) (.int .i64 L)).run Tryz.prog w = .ok (.slice (some ⟨w.heap.size, 0, none⟩) 0 L) (w.alloc (.cells (rowK xs L 0) 86)) := by
    rcases hL with rfl | rfl
    · exact mk35_2
    · exact mk35_3
  have hA : Calls Tryz.prog 69 #[.pointer (some ⟨a, 0, none⟩)] A1 fun e w' => e = .returned (.func (.func 91) #[] #[.pointer (some ⟨A1.heap.size, 0, none⟩)]) ∧ w' = A2 := by rw [← hA2]; exact all35 a A1
  have HA := hidM hA
  have HZ := hidM (And.intro hg (And.intro z0 (And.intro z1 z2)))
  clear hC0 ha hq hr hv2 g0 b0 g1 b1 hA2 g2 b2 g12 gW z0 z1 z2 hal hseq h0 hA
  refine (callsIn_wide (n := 10)).1 ?_
  refine callsIn_of_wp_marks Tryz.func50 rfl trivial ?_ rfl
  simp only [Tryz.ntmps50, List.size_toArray, List.length_cons, List.length_nil, Nat.reduceAdd, Nat.reduceSub, Array.replicate_succ, Array.replicate_zero, List.push_toArray, List.append_toArray, List.nil_append, List.cons_append]
  refine wpIn_wide.2 ?_
  go_wp2_with (go_at_call 69; refine HA.out.mono ?_; rintro e w2 ⟨rfl, rfl⟩)
  refine (wpIn_wide (n := 10)).1 ?_
  obtain ⟨hg', zz0, zz1, zz2⟩ := HZ.out
  refine rangeX (by decide) (gf := 91) (lb := #[.pointer (some ⟨A1.heap.size, 0, none⟩)]) rfl (enters_of Tryz.func91 (by kernel_rfl) rfl) HSeq.out (fun _ => rfl) (fun b h => h.1) (fun O pre x A B h k => h)
    (fun b => b = g ∨ b = A0.heap.size) (fun b h => ⟨by rcases h with h | h <;> omega, fun hs => by rcases h with h | h <;> omega⟩)
    (ValI xs L W g A0.heap.size) (fun pre Y Z h hz hb => by
      obtain ⟨k, h1, h2, h3, h4, h5⟩ := h
      exact ⟨k, h1, h2, gr_below h3 (by omega) hb, (hb.block g (by omega)).trans h4, (hb.block _ (by omega)).trans h5⟩)
    (fun _ _ _ => False) (fun c pre Y Z h hk => h) H0.out
    (fun x a' W => ∃ Bx, W.heap[Bx]? = some (.cells (valN xs x) 86) ∧ w2.heap.size + 2 ≤ Bx ∧ a' = { tmps := #[.pointer (some ⟨a, 0, none⟩), undef, .slice none 0 0, .pointer (some ⟨A0.heap.size, 0, none⟩), undef, .pointer (some ⟨Bx, 0, none⟩), .pointer (some ⟨a, 0, none⟩), .pointer (some ⟨a, 0, none⟩), .pointer (some ⟨a, 2, none⟩), .int .i64 L, .slice (some ⟨g, 0, none⟩) 0 L, .pointer (some ⟨a, 0, none⟩), .func (.func 91) #[] #[.pointer (some ⟨A1.heap.size, 0, none⟩)], .int .i64 x, .agg (valN xs x), undef, undef, undef, undef, undef, undef, undef], defers := [] })
    (fun x a' Y Z h hk => by
      obtain ⟨Bx, h1, h2, h3⟩ := h
      exact ⟨Bx, (hk.block Bx (lt_of_heap h1) (fun e => by have e' : Bx = w2.heap.size + 1 := e; omega)).trans h1, h2, h3⟩)
    ?assign ?body ?done ?stop
  case assign =>
    intro l x Wr K hz hK
    unfold encV
    unfold valN at hK ⊢
    clear zz0 zz1 zz2 hg hg'
    gi_wp2
    refine hK _ _ (gr_alloc Wr _) ⟨Wr.heap.size, heap_alloc_new Wr _, by omega, rfl⟩
  case body =>
    rintro l O pre x a' Wr hi ⟨rfl, hx2⟩ ⟨Bx, hbx, hBx, rfl⟩ hO hz
    have hx : x = 0 ∨ x = 1 ∨ x = 2 := by omega
    obtain ⟨k, hk, hpre, gW0, hgr, hbr⟩ := hi
    have hkx : k = x := by have := congrArg List.length hpre; simpa using this.symm
    subst hkx
    have hlg : W.heap.size ≤ g := by omega
    have hlb : W.heap.size ≤ A0.heap.size := by omega
    clear hk hpre HSeq H0 HA hmk hA0 hA1 a0 a1 a2 a3 HZ
    rcases hx with rfl | rfl | rfl
    · have hvb : Wr.heap[Bx]? = some (.cells #[.bool false, .int .i64 (xs 0), .string ⟨#[]⟩, .slice none 0 0] 86) := hbx
      obtain ⟨Wd, hWd⟩ : ∃ Wd, Wr.drew = Wd := ⟨_, rfl⟩
      have gd : Gr Wr Wd := by rw [← hWd]; exact gr_drew
      obtain ⟨Z, hZ⟩ : ∃ Z, Wd.alloc (.cells #[.bool false, .int .i64 0, .string ⟨#[]⟩, .slice none 0 0] 86) = Z := ⟨_, rfl⟩
      have gZ0 : Gr Wd Z := by rw [← hZ]; exact gr_alloc Wd _
      have gZ : Gr Wr Z := gd.trans gZ0 (fun _ _ h => h)
      have hzz : Z.heap[Wd.heap.size]? = some (.cells #[.bool false, .int .i64 0, .string ⟨#[]⟩, .slice none 0 0] 86) := by rw [← hZ]; exact heap_alloc_new Wd _
      obtain ⟨z1, z2, z3, z4, z5, z6⟩ := val_step (o := 0) hL hx2 rfl gW0 hgr hbr gZ hlg hlb
      have HAp := hidM (fun ty => append_room hL hx2 z1 hzz ty)
      obtain ⟨U6, hU6⟩ : ∃ U6, rwU Z g 0 false (xs 0) = U6 := ⟨_, rfl⟩
      obtain ⟨U67, hU67⟩ : ∃ U67, U6.setCell ⟨A0.heap.size, 0, none⟩ (.slice (some ⟨g, 0, none⟩) 1 L) = U67 := ⟨_, rfl⟩
      obtain ⟨U7, hU7⟩ : ∃ U7, Z.setCell ⟨A0.heap.size, 0, none⟩ (.slice (some ⟨g, 0, none⟩) 1 L) = U7 := ⟨_, rfl⟩
      obtain ⟨U76, hU76⟩ : ∃ U76, rwU U7 g 0 false (xs 0) = U76 := ⟨_, rfl⟩
      rw [hU6] at z3 z5
      rw [hU67] at z5
      rw [hU7] at z4 z6
      rw [hU76] at z6
      have hcl : ∀ u, Keeps Wr u (fun b => b = g ∨ b = A0.heap.size) → u.cell? ⟨Bx, 0, none⟩ = some (.bool false) ∧ u.cell? ⟨Bx, 1, none⟩ = some (.int .i64 (xs 0)) ∧ u.cell? ⟨Bx, 2, none⟩ = some (.string ⟨#[]⟩) ∧ u.cell? ⟨Bx, 3, none⟩ = some (.slice none 0 0) := fun u h => cell4 ((h.block Bx (lt_of_heap hvb) (fun e => by rcases e with e | e <;> omega)).trans hvb)
      have HXd := hidM (hcl Wd (gd.mono fun _ _ h => h.elim))
      have HXZ := hidM (hcl Z (gZ.mono fun _ _ h => h.elim))
      have k6 : Keeps Wr U6 (fun b => b = g ∨ b = A0.heap.size) := by rw [← hU6]; exact (gZ.mono fun _ _ h => h.elim).trans (setAll_kp _ _ _) (fun _ _ h => .inl h)
      have k7 : Keeps Wr U7 (fun b => b = g ∨ b = A0.heap.size) := by rw [← hU7]; exact Keeps.setCell (S := fun b => b = g ∨ b = A0.heap.size) (p := ⟨A0.heap.size, 0, none⟩) (gZ.mono fun _ _ h => h.elim) (fun _ => .inr rfl) _
      have HX6 := hidM (hcl U6 k6)
      have HX67 := hidM (hcl U67 z5.1)
      have HX7 := hidM (hcl U7 k7)
      have HX76 := hidM (hcl U76 z6.1)
      have HE67 := hidM z5
      have HE76 := hidM z6
      obtain ⟨i0, i1, i2, i3⟩ := rowCells (o := 0) hL hx2 rfl z1
      obtain ⟨j0, j1, j2, j3⟩ := rowCells (o := 0) hL hx2 rfl z4
      have b0 := cell1 ((gd.block _ (lt_of_heap hbr) id).trans hbr)
      have b1 := cell1 z2
      have b6 := cell1 z3
      have f2 := frz z2 0
      have f3 := frz z3 0
      have f1 := frzA z1
      have f4 := frzA z4
      simp only [rwU, setAll] at hU6 hU76
      clear gd gZ0 gZ hzz z1 z2 z3 z4 z5 z6 hcl k6 k7 hvb hbx gW0 hgr hbr hz hO hBx hlg hlb zz0 zz1 zz2 hg hg'
      gi_wp2_with fail
      refine region_round (S := fun w' => w'.cell? ⟨Bx, 0, none⟩ = some (.bool false) ∧ w'.cell? ⟨Bx, 1, none⟩ = some (.int .i64 (xs 0)) ∧ w'.cell? ⟨Bx, 2, none⟩ = some (.string ⟨#[]⟩) ∧ w'.cell? ⟨Bx, 3, none⟩ = some (.slice none 0 0)) (by kernel_rfl) (noDefer_spec (by kernel_rfl)) (fun ⟨_, _, h⟩ => h) ?_
      rw [hWd]
      have hHeld : (fun w' : World => w'.cell? ⟨Bx, 0, none⟩ = some (.bool false) ∧ w'.cell? ⟨Bx, 1, none⟩ = some (.int .i64 (xs 0)) ∧ w'.cell? ⟨Bx, 2, none⟩ = some (.string ⟨#[]⟩) ∧ w'.cell? ⟨Bx, 3, none⟩ = some (.slice none 0 0)) Wd := HXd.out
      refine wpAnyH_take (i := 1) (oi := { dst := some 16, op := Op.load 86 (Operand.tmp 5), type := 86, pos := "array.go:130", after := #[], guard := none }) (v := ?v1a01) rfl (by kernel_rfl) (by kernel_rfl) (by kernel_rfl) (fun _ _ _ h => h) (Or.inl ⟨by rfl, ?y1a01⟩) (by assumption) ?r1a01
      case y1a01 => (intro w hSw; obtain ⟨s0, s1, s2, s3⟩ := hSw; go_simp; (try with_reducible rfl))
      (try simp only [Act.put]); (try simp only [List.setIfInBounds_toArray]); (try simp only [List.set_cons_succ]); (try simp only [List.set_cons_zero])
      refine wpAnyH_ready (rs := [0, 3]) (by kernel_rfl) (by simp) ?_
      refine AllReadyH.cons (o := { dst := some 15, op := Op.load 58 (Operand.tmp 3), type := 58, pos := "array.go:130", after := #[], guard := none }) rfl (fun Kc hK => ?_) (AllReadyH.cons (o := { dst := some 18, op := Op.buildSlice 58 1 #[(0, Operand.const (Value.agg #[Value.bool false, Value.int IntKind.i64 0, Value.string { data := #[] }, Value.slice none 0 0]))], type := 58, pos := "array.go:130", after := #[], guard := none }) rfl (fun Kc hK => ?_) AllReadyH.nil)
      · go_simp
        refine hK.out _ _ HXd.out (fun hHeld => ?_)
        clear hK Kc
        (try simp only [Act.put]); (try simp only [List.setIfInBounds_toArray]); (try simp only [List.set_cons_succ]); (try simp only [List.set_cons_zero])
        refine wpAnyH_take (i := 2) (oi := { dst := some 17, op := Op.call { callee := Callee.builtin Builtin.len, args := #[Operand.tmp 15], argTypes := #[58] }, type := 3, pos := "array.go:130", after := #[{ on := 0, ground := Ground.data }], guard := none }) (v := ?v2b01) rfl (by kernel_rfl) (by kernel_rfl) (by kernel_rfl) (fun _ _ _ h => h) (Or.inl ⟨by rfl, ?y2b01⟩) (by assumption) ?r2b01
        case y2b01 => (intro w hSw; obtain ⟨s0, s1, s2, s3⟩ := hSw; go_simp; (try with_reducible rfl))
        (try simp only [Act.put]); (try simp only [List.setIfInBounds_toArray]); (try simp only [List.set_cons_succ]); (try simp only [List.set_cons_zero])
        refine wpAnyH_ready (rs := [3]) (by kernel_rfl) (by simp) ?_
        refine AllReadyH.cons (o := { dst := some 18, op := Op.buildSlice 58 1 #[(0, Operand.const (Value.agg #[Value.bool false, Value.int IntKind.i64 0, Value.string { data := #[] }, Value.slice none 0 0]))], type := 58, pos := "array.go:130", after := #[], guard := none }) rfl (fun Kc hK => ?_) AllReadyH.nil
        go_simp
        refine hK.out _ _ HXZ.out (fun hHeld => ?_)
        clear hK Kc
        (try simp only [Act.put]); (try simp only [List.setIfInBounds_toArray]); (try simp only [List.set_cons_succ]); (try simp only [List.set_cons_zero])
        refine wpAnyH_ready (rs := [4]) (by kernel_rfl) (by simp) ?_
        refine AllReadyH.cons (o := { dst := some 19, op := Op.call { callee := Callee.builtin Builtin.append, args := #[Operand.tmp 15, Operand.tmp 18], argTypes := #[58, 58] }, type := 58, pos := "array.go:130", after := #[{ on := 0, ground := Ground.data }, { on := 3, ground := Ground.data }, { on := 0, ground := Ground.phase }, { on := 1, ground := Ground.phase }, { on := 2, ground := Ground.phase }, { on := 3, ground := Ground.phase }], guard := none }) rfl (fun Kc hK => ?_) AllReadyH.nil
        refine step_append_run (P := Tryz.prog) rfl (.tmp 15) (.tmp 18) 58 58 rfl (.slice (some ⟨g, 0, none⟩) 0 L) (.slice (some ⟨Wd.heap.size, 0, none⟩) 1 1) (.slice (some ⟨g, 0, none⟩) 1 L) Z rfl rfl HAp.out ?_
        refine hK.out _ _ HXZ.out (fun hHeld => ?_)
        clear hK Kc
        (try simp only [Act.put]); (try simp only [List.setIfInBounds_toArray]); (try simp only [List.set_cons_succ]); (try simp only [List.set_cons_zero])
        refine wpAnyH_take (i := 5) (oi := { dst := some 20, op := Op.indexAddr 58 (Operand.tmp 19) (Operand.tmp 17), type := 0, pos := "array.go:130", after := #[{ on := 4, ground := Ground.data }, { on := 2, ground := Ground.data }, { on := 0, ground := Ground.phase }, { on := 1, ground := Ground.phase }, { on := 2, ground := Ground.phase }, { on := 3, ground := Ground.phase }, { on := 4, ground := Ground.phase }, { on := 7, ground := Ground.gcOnly Departure.appendInPlace }], guard := none }) (v := ?v5c01) rfl (by kernel_rfl) (by kernel_rfl) (by kernel_rfl) (fun _ _ _ h => h) (Or.inl ⟨by rfl, ?y5c01⟩) (by assumption) ?r5c01
        case y5c01 => (intro w hSw; obtain ⟨s0, s1, s2, s3⟩ := hSw; go_simp; (try with_reducible rfl))
        (try simp only [Act.put]); (try simp only [List.setIfInBounds_toArray]); (try simp only [List.set_cons_succ]); (try simp only [List.set_cons_zero])
        refine wpAnyH_ready (rs := [6, 7]) (by kernel_rfl) (by simp) ?_
        refine AllReadyH.cons (o := { dst := none, op := Op.store 86 (Operand.tmp 20) (Operand.tmp 16), type := 0, pos := "array.go:130", after := #[{ on := 5, ground := Ground.data }, { on := 1, ground := Ground.data }, { on := 4, ground := Ground.chain }, { on := 0, ground := Ground.phase }, { on := 1, ground := Ground.phase }, { on := 2, ground := Ground.phase }, { on := 3, ground := Ground.phase }, { on := 4, ground := Ground.phase }, { on := 7, ground := Ground.gcOnly Departure.appendInPlace }], guard := none }) rfl (fun Kc hK => ?_) (AllReadyH.cons (o := { dst := none, op := Op.store 58 (Operand.tmp 3) (Operand.tmp 19), type := 0, pos := "array.go:130", after := #[{ on := 4, ground := Ground.data }, { on := 4, ground := Ground.chain }, { on := 6, ground := Ground.textOnly Departure.appendInPlace }, { on := 0, ground := Ground.phase }, { on := 1, ground := Ground.phase }, { on := 2, ground := Ground.phase }, { on := 3, ground := Ground.phase }, { on := 4, ground := Ground.phase }, { on := 5, ground := Ground.textOnly Departure.appendInPlace }, { on := 6, ground := Ground.textOnly Departure.appendInPlace }], guard := none }) rfl (fun Kc hK => ?_) AllReadyH.nil)
        · go_simp
          refine hK.out _ _ HX6.out (fun hHeld => ?_)
          clear hK Kc
          (try simp only [Act.put]); (try simp only [List.setIfInBounds_toArray]); (try simp only [List.set_cons_succ]); (try simp only [List.set_cons_zero])
          refine wpAnyH_ready (rs := [7]) (by kernel_rfl) (by simp) ?_
          refine AllReadyH.cons (o := { dst := none, op := Op.store 58 (Operand.tmp 3) (Operand.tmp 19), type := 0, pos := "array.go:130", after := #[{ on := 4, ground := Ground.data }, { on := 4, ground := Ground.chain }, { on := 6, ground := Ground.textOnly Departure.appendInPlace }, { on := 0, ground := Ground.phase }, { on := 1, ground := Ground.phase }, { on := 2, ground := Ground.phase }, { on := 3, ground := Ground.phase }, { on := 4, ground := Ground.phase }, { on := 5, ground := Ground.textOnly Departure.appendInPlace }, { on := 6, ground := Ground.textOnly Departure.appendInPlace }], guard := none }) rfl (fun Kc hK => ?_) AllReadyH.nil
          go_simp
          refine hK.out _ _ HX67.out (fun hHeld => ?_)
          clear hK Kc
          (try simp only [Act.put]); (try simp only [List.setIfInBounds_toArray]); (try simp only [List.set_cons_succ]); (try simp only [List.set_cons_zero])
          refine wpAnyH_done (by kernel_rfl) ?_ _
          exact HE67.out
        · go_simp
          refine hK.out _ _ HX7.out (fun hHeld => ?_)
          clear hK Kc
          (try simp only [Act.put]); (try simp only [List.setIfInBounds_toArray]); (try simp only [List.set_cons_succ]); (try simp only [List.set_cons_zero])
          refine wpAnyH_ready (rs := [6]) (by kernel_rfl) (by simp) ?_
          refine AllReadyH.cons (o := { dst := none, op := Op.store 86 (Operand.tmp 20) (Operand.tmp 16), type := 0, pos := "array.go:130", after := #[{ on := 5, ground := Ground.data }, { on := 1, ground := Ground.data }, { on := 4, ground := Ground.chain }, { on := 0, ground := Ground.phase }, { on := 1, ground := Ground.phase }, { on := 2, ground := Ground.phase }, { on := 3, ground := Ground.phase }, { on := 4, ground := Ground.phase }, { on := 7, ground := Ground.gcOnly Departure.appendInPlace }], guard := none }) rfl (fun Kc hK => ?_) AllReadyH.nil
          go_simp
          refine hK.out _ _ HX76.out (fun hHeld => ?_)
          clear hK Kc
          (try simp only [Act.put]); (try simp only [List.setIfInBounds_toArray]); (try simp only [List.set_cons_succ]); (try simp only [List.set_cons_zero])
          refine wpAnyH_done (by kernel_rfl) ?_ _
          exact HE76.out
      · go_simp
        refine hK.out _ _ HXZ.out (fun hHeld => ?_)
        clear hK Kc
        (try simp only [Act.put]); (try simp only [List.setIfInBounds_toArray]); (try simp only [List.set_cons_succ]); (try simp only [List.set_cons_zero])
        refine wpAnyH_ready (rs := [0]) (by kernel_rfl) (by simp) ?_
        refine AllReadyH.cons (o := { dst := some 15, op := Op.load 58 (Operand.tmp 3), type := 58, pos := "array.go:130", after := #[], guard := none }) rfl (fun Kc hK => ?_) AllReadyH.nil
        go_simp
        refine hK.out _ _ HXZ.out (fun hHeld => ?_)
        clear hK Kc
        (try simp only [Act.put]); (try simp only [List.setIfInBounds_toArray]); (try simp only [List.set_cons_succ]); (try simp only [List.set_cons_zero])
        refine wpAnyH_take (i := 2) (oi := { dst := some 17, op := Op.call { callee := Callee.builtin Builtin.len, args := #[Operand.tmp 15], argTypes := #[58] }, type := 3, pos := "array.go:130", after := #[{ on := 0, ground := Ground.data }], guard := none }) (v := ?v2d01) rfl (by kernel_rfl) (by kernel_rfl) (by kernel_rfl) (fun _ _ _ h => h) (Or.inl ⟨by rfl, ?y2d01⟩) (by assumption) ?r2d01
        case y2d01 => (intro w hSw; obtain ⟨s0, s1, s2, s3⟩ := hSw; go_simp; (try with_reducible rfl))
        (try simp only [Act.put]); (try simp only [List.setIfInBounds_toArray]); (try simp only [List.set_cons_succ]); (try simp only [List.set_cons_zero])
        refine wpAnyH_ready (rs := [4]) (by kernel_rfl) (by simp) ?_
        refine AllReadyH.cons (o := { dst := some 19, op := Op.call { callee := Callee.builtin Builtin.append, args := #[Operand.tmp 15, Operand.tmp 18], argTypes := #[58, 58] }, type := 58, pos := "array.go:130", after := #[{ on := 0, ground := Ground.data }, { on := 3, ground := Ground.data }, { on := 0, ground := Ground.phase }, { on := 1, ground := Ground.phase }, { on := 2, ground := Ground.phase }, { on := 3, ground := Ground.phase }], guard := none }) rfl (fun Kc hK => ?_) AllReadyH.nil
        refine step_append_run (P := Tryz.prog) rfl (.tmp 15) (.tmp 18) 58 58 rfl (.slice (some ⟨g, 0, none⟩) 0 L) (.slice (some ⟨Wd.heap.size, 0, none⟩) 1 1) (.slice (some ⟨g, 0, none⟩) 1 L) Z rfl rfl HAp.out ?_
        refine hK.out _ _ HXZ.out (fun hHeld => ?_)
        clear hK Kc
        (try simp only [Act.put]); (try simp only [List.setIfInBounds_toArray]); (try simp only [List.set_cons_succ]); (try simp only [List.set_cons_zero])
        refine wpAnyH_take (i := 5) (oi := { dst := some 20, op := Op.indexAddr 58 (Operand.tmp 19) (Operand.tmp 17), type := 0, pos := "array.go:130", after := #[{ on := 4, ground := Ground.data }, { on := 2, ground := Ground.data }, { on := 0, ground := Ground.phase }, { on := 1, ground := Ground.phase }, { on := 2, ground := Ground.phase }, { on := 3, ground := Ground.phase }, { on := 4, ground := Ground.phase }, { on := 7, ground := Ground.gcOnly Departure.appendInPlace }], guard := none }) (v := ?v5e01) rfl (by kernel_rfl) (by kernel_rfl) (by kernel_rfl) (fun _ _ _ h => h) (Or.inl ⟨by rfl, ?y5e01⟩) (by assumption) ?r5e01
        case y5e01 => (intro w hSw; obtain ⟨s0, s1, s2, s3⟩ := hSw; go_simp; (try with_reducible rfl))
        (try simp only [Act.put]); (try simp only [List.setIfInBounds_toArray]); (try simp only [List.set_cons_succ]); (try simp only [List.set_cons_zero])
        refine wpAnyH_ready (rs := [6, 7]) (by kernel_rfl) (by simp) ?_
        refine AllReadyH.cons (o := { dst := none, op := Op.store 86 (Operand.tmp 20) (Operand.tmp 16), type := 0, pos := "array.go:130", after := #[{ on := 5, ground := Ground.data }, { on := 1, ground := Ground.data }, { on := 4, ground := Ground.chain }, { on := 0, ground := Ground.phase }, { on := 1, ground := Ground.phase }, { on := 2, ground := Ground.phase }, { on := 3, ground := Ground.phase }, { on := 4, ground := Ground.phase }, { on := 7, ground := Ground.gcOnly Departure.appendInPlace }], guard := none }) rfl (fun Kc hK => ?_) (AllReadyH.cons (o := { dst := none, op := Op.store 58 (Operand.tmp 3) (Operand.tmp 19), type := 0, pos := "array.go:130", after := #[{ on := 4, ground := Ground.data }, { on := 4, ground := Ground.chain }, { on := 6, ground := Ground.textOnly Departure.appendInPlace }, { on := 0, ground := Ground.phase }, { on := 1, ground := Ground.phase }, { on := 2, ground := Ground.phase }, { on := 3, ground := Ground.phase }, { on := 4, ground := Ground.phase }, { on := 5, ground := Ground.textOnly Departure.appendInPlace }, { on := 6, ground := Ground.textOnly Departure.appendInPlace }], guard := none }) rfl (fun Kc hK => ?_) AllReadyH.nil)
        · go_simp
          refine hK.out _ _ HX6.out (fun hHeld => ?_)
          clear hK Kc
          (try simp only [Act.put]); (try simp only [List.setIfInBounds_toArray]); (try simp only [List.set_cons_succ]); (try simp only [List.set_cons_zero])
          refine wpAnyH_ready (rs := [7]) (by kernel_rfl) (by simp) ?_
          refine AllReadyH.cons (o := { dst := none, op := Op.store 58 (Operand.tmp 3) (Operand.tmp 19), type := 0, pos := "array.go:130", after := #[{ on := 4, ground := Ground.data }, { on := 4, ground := Ground.chain }, { on := 6, ground := Ground.textOnly Departure.appendInPlace }, { on := 0, ground := Ground.phase }, { on := 1, ground := Ground.phase }, { on := 2, ground := Ground.phase }, { on := 3, ground := Ground.phase }, { on := 4, ground := Ground.phase }, { on := 5, ground := Ground.textOnly Departure.appendInPlace }, { on := 6, ground := Ground.textOnly Departure.appendInPlace }], guard := none }) rfl (fun Kc hK => ?_) AllReadyH.nil
          go_simp
          refine hK.out _ _ HX67.out (fun hHeld => ?_)
          clear hK Kc
          (try simp only [Act.put]); (try simp only [List.setIfInBounds_toArray]); (try simp only [List.set_cons_succ]); (try simp only [List.set_cons_zero])
          refine wpAnyH_done (by kernel_rfl) ?_ _
          exact HE67.out
        · go_simp
          refine hK.out _ _ HX7.out (fun hHeld => ?_)
          clear hK Kc
          (try simp only [Act.put]); (try simp only [List.setIfInBounds_toArray]); (try simp only [List.set_cons_succ]); (try simp only [List.set_cons_zero])
          refine wpAnyH_ready (rs := [6]) (by kernel_rfl) (by simp) ?_
          refine AllReadyH.cons (o := { dst := none, op := Op.store 86 (Operand.tmp 20) (Operand.tmp 16), type := 0, pos := "array.go:130", after := #[{ on := 5, ground := Ground.data }, { on := 1, ground := Ground.data }, { on := 4, ground := Ground.chain }, { on := 0, ground := Ground.phase }, { on := 1, ground := Ground.phase }, { on := 2, ground := Ground.phase }, { on := 3, ground := Ground.phase }, { on := 4, ground := Ground.phase }, { on := 7, ground := Ground.gcOnly Departure.appendInPlace }], guard := none }) rfl (fun Kc hK => ?_) AllReadyH.nil
          go_simp
          refine hK.out _ _ HX76.out (fun hHeld => ?_)
          clear hK Kc
          (try simp only [Act.put]); (try simp only [List.setIfInBounds_toArray]); (try simp only [List.set_cons_succ]); (try simp only [List.set_cons_zero])
          refine wpAnyH_done (by kernel_rfl) ?_ _
          exact HE76.out
    · have hvb : Wr.heap[Bx]? = some (.cells #[.bool false, .int .i64 (xs 1), .string ⟨#[]⟩, .slice none 0 0] 86) := hbx
      obtain ⟨Wd, hWd⟩ : ∃ Wd, Wr.drew = Wd := ⟨_, rfl⟩
      have gd : Gr Wr Wd := by rw [← hWd]; exact gr_drew
      obtain ⟨Z, hZ⟩ : ∃ Z, Wd.alloc (.cells #[.bool false, .int .i64 0, .string ⟨#[]⟩, .slice none 0 0] 86) = Z := ⟨_, rfl⟩
      have gZ0 : Gr Wd Z := by rw [← hZ]; exact gr_alloc Wd _
      have gZ : Gr Wr Z := gd.trans gZ0 (fun _ _ h => h)
      have hzz : Z.heap[Wd.heap.size]? = some (.cells #[.bool false, .int .i64 0, .string ⟨#[]⟩, .slice none 0 0] 86) := by rw [← hZ]; exact heap_alloc_new Wd _
      obtain ⟨z1, z2, z3, z4, z5, z6⟩ := val_step (o := 4) hL hx2 rfl gW0 hgr hbr gZ hlg hlb
      have HAp := hidM (fun ty => append_room hL hx2 z1 hzz ty)
      obtain ⟨U6, hU6⟩ : ∃ U6, rwU Z g 4 false (xs 1) = U6 := ⟨_, rfl⟩
      obtain ⟨U67, hU67⟩ : ∃ U67, U6.setCell ⟨A0.heap.size, 0, none⟩ (.slice (some ⟨g, 0, none⟩) 2 L) = U67 := ⟨_, rfl⟩
      obtain ⟨U7, hU7⟩ : ∃ U7, Z.setCell ⟨A0.heap.size, 0, none⟩ (.slice (some ⟨g, 0, none⟩) 2 L) = U7 := ⟨_, rfl⟩
      obtain ⟨U76, hU76⟩ : ∃ U76, rwU U7 g 4 false (xs 1) = U76 := ⟨_, rfl⟩
      rw [hU6] at z3 z5
      rw [hU67] at z5
      rw [hU7] at z4 z6
      rw [hU76] at z6
      have hcl : ∀ u, Keeps Wr u (fun b => b = g ∨ b = A0.heap.size) → u.cell? ⟨Bx, 0, none⟩ = some (.bool false) ∧ u.cell? ⟨Bx, 1, none⟩ = some (.int .i64 (xs 1)) ∧ u.cell? ⟨Bx, 2, none⟩ = some (.string ⟨#[]⟩) ∧ u.cell? ⟨Bx, 3, none⟩ = some (.slice none 0 0) := fun u h => cell4 ((h.block Bx (lt_of_heap hvb) (fun e => by rcases e with e | e <;> omega)).trans hvb)
      have HXd := hidM (hcl Wd (gd.mono fun _ _ h => h.elim))
      have HXZ := hidM (hcl Z (gZ.mono fun _ _ h => h.elim))
      have k6 : Keeps Wr U6 (fun b => b = g ∨ b = A0.heap.size) := by rw [← hU6]; exact (gZ.mono fun _ _ h => h.elim).trans (setAll_kp _ _ _) (fun _ _ h => .inl h)
      have k7 : Keeps Wr U7 (fun b => b = g ∨ b = A0.heap.size) := by rw [← hU7]; exact Keeps.setCell (S := fun b => b = g ∨ b = A0.heap.size) (p := ⟨A0.heap.size, 0, none⟩) (gZ.mono fun _ _ h => h.elim) (fun _ => .inr rfl) _
      have HX6 := hidM (hcl U6 k6)
      have HX67 := hidM (hcl U67 z5.1)
      have HX7 := hidM (hcl U7 k7)
      have HX76 := hidM (hcl U76 z6.1)
      have HE67 := hidM z5
      have HE76 := hidM z6
      obtain ⟨i0, i1, i2, i3⟩ := rowCells (o := 4) hL hx2 rfl z1
      obtain ⟨j0, j1, j2, j3⟩ := rowCells (o := 4) hL hx2 rfl z4
      have b0 := cell1 ((gd.block _ (lt_of_heap hbr) id).trans hbr)
      have b1 := cell1 z2
      have b6 := cell1 z3
      have f2 := frz z2 0
      have f3 := frz z3 0
      have f1 := frzA z1
      have f4 := frzA z4
      simp only [rwU, setAll] at hU6 hU76
      clear gd gZ0 gZ hzz z1 z2 z3 z4 z5 z6 hcl k6 k7 hvb hbx gW0 hgr hbr hz hO hBx hlg hlb zz0 zz1 zz2 hg hg'
      gi_wp2_with fail
      refine region_round (S := fun w' => w'.cell? ⟨Bx, 0, none⟩ = some (.bool false) ∧ w'.cell? ⟨Bx, 1, none⟩ = some (.int .i64 (xs 1)) ∧ w'.cell? ⟨Bx, 2, none⟩ = some (.string ⟨#[]⟩) ∧ w'.cell? ⟨Bx, 3, none⟩ = some (.slice none 0 0)) (by kernel_rfl) (noDefer_spec (by kernel_rfl)) (fun ⟨_, _, h⟩ => h) ?_
      rw [hWd]
      have hHeld : (fun w' : World => w'.cell? ⟨Bx, 0, none⟩ = some (.bool false) ∧ w'.cell? ⟨Bx, 1, none⟩ = some (.int .i64 (xs 1)) ∧ w'.cell? ⟨Bx, 2, none⟩ = some (.string ⟨#[]⟩) ∧ w'.cell? ⟨Bx, 3, none⟩ = some (.slice none 0 0)) Wd := HXd.out
      refine wpAnyH_take (i := 1) (oi := { dst := some 16, op := Op.load 86 (Operand.tmp 5), type := 86, pos := "array.go:130", after := #[], guard := none }) (v := ?v1a11) rfl (by kernel_rfl) (by kernel_rfl) (by kernel_rfl) (fun _ _ _ h => h) (Or.inl ⟨by rfl, ?y1a11⟩) (by assumption) ?r1a11
      case y1a11 => (intro w hSw; obtain ⟨s0, s1, s2, s3⟩ := hSw; go_simp; (try with_reducible rfl))
      (try simp only [Act.put]); (try simp only [List.setIfInBounds_toArray]); (try simp only [List.set_cons_succ]); (try simp only [List.set_cons_zero])
      refine wpAnyH_ready (rs := [0, 3]) (by kernel_rfl) (by simp) ?_
      refine AllReadyH.cons (o := { dst := some 15, op := Op.load 58 (Operand.tmp 3), type := 58, pos := "array.go:130", after := #[], guard := none }) rfl (fun Kc hK => ?_) (AllReadyH.cons (o := { dst := some 18, op := Op.buildSlice 58 1 #[(0, Operand.const (Value.agg #[Value.bool false, Value.int IntKind.i64 0, Value.string { data := #[] }, Value.slice none 0 0]))], type := 58, pos := "array.go:130", after := #[], guard := none }) rfl (fun Kc hK => ?_) AllReadyH.nil)
      · go_simp
        refine hK.out _ _ HXd.out (fun hHeld => ?_)
        clear hK Kc
        (try simp only [Act.put]); (try simp only [List.setIfInBounds_toArray]); (try simp only [List.set_cons_succ]); (try simp only [List.set_cons_zero])
        refine wpAnyH_take (i := 2) (oi := { dst := some 17, op := Op.call { callee := Callee.builtin Builtin.len, args := #[Operand.tmp 15], argTypes := #[58] }, type := 3, pos := "array.go:130", after := #[{ on := 0, ground := Ground.data }], guard := none }) (v := ?v2b11) rfl (by kernel_rfl) (by kernel_rfl) (by kernel_rfl) (fun _ _ _ h => h) (Or.inl ⟨by rfl, ?y2b11⟩) (by assumption) ?r2b11
        case y2b11 => (intro w hSw; obtain ⟨s0, s1, s2, s3⟩ := hSw; go_simp; (try with_reducible rfl))
        (try simp only [Act.put]); (try simp only [List.setIfInBounds_toArray]); (try simp only [List.set_cons_succ]); (try simp only [List.set_cons_zero])
        refine wpAnyH_ready (rs := [3]) (by kernel_rfl) (by simp) ?_
        refine AllReadyH.cons (o := { dst := some 18, op := Op.buildSlice 58 1 #[(0, Operand.const (Value.agg #[Value.bool false, Value.int IntKind.i64 0, Value.string { data := #[] }, Value.slice none 0 0]))], type := 58, pos := "array.go:130", after := #[], guard := none }) rfl (fun Kc hK => ?_) AllReadyH.nil
        go_simp
        refine hK.out _ _ HXZ.out (fun hHeld => ?_)
        clear hK Kc
        (try simp only [Act.put]); (try simp only [List.setIfInBounds_toArray]); (try simp only [List.set_cons_succ]); (try simp only [List.set_cons_zero])
        refine wpAnyH_ready (rs := [4]) (by kernel_rfl) (by simp) ?_
        refine AllReadyH.cons (o := { dst := some 19, op := Op.call { callee := Callee.builtin Builtin.append, args := #[Operand.tmp 15, Operand.tmp 18], argTypes := #[58, 58] }, type := 58, pos := "array.go:130", after := #[{ on := 0, ground := Ground.data }, { on := 3, ground := Ground.data }, { on := 0, ground := Ground.phase }, { on := 1, ground := Ground.phase }, { on := 2, ground := Ground.phase }, { on := 3, ground := Ground.phase }], guard := none }) rfl (fun Kc hK => ?_) AllReadyH.nil
        refine step_append_run (P := Tryz.prog) rfl (.tmp 15) (.tmp 18) 58 58 rfl (.slice (some ⟨g, 0, none⟩) 1 L) (.slice (some ⟨Wd.heap.size, 0, none⟩) 1 1) (.slice (some ⟨g, 0, none⟩) 2 L) Z rfl rfl HAp.out ?_
        refine hK.out _ _ HXZ.out (fun hHeld => ?_)
        clear hK Kc
        (try simp only [Act.put]); (try simp only [List.setIfInBounds_toArray]); (try simp only [List.set_cons_succ]); (try simp only [List.set_cons_zero])
        refine wpAnyH_take (i := 5) (oi := { dst := some 20, op := Op.indexAddr 58 (Operand.tmp 19) (Operand.tmp 17), type := 0, pos := "array.go:130", after := #[{ on := 4, ground := Ground.data }, { on := 2, ground := Ground.data }, { on := 0, ground := Ground.phase }, { on := 1, ground := Ground.phase }, { on := 2, ground := Ground.phase }, { on := 3, ground := Ground.phase }, { on := 4, ground := Ground.phase }, { on := 7, ground := Ground.gcOnly Departure.appendInPlace }], guard := none }) (v := ?v5c11) rfl (by kernel_rfl) (by kernel_rfl) (by kernel_rfl) (fun _ _ _ h => h) (Or.inl ⟨by rfl, ?y5c11⟩) (by assumption) ?r5c11
        case y5c11 => (intro w hSw; obtain ⟨s0, s1, s2, s3⟩ := hSw; go_simp; (try with_reducible rfl))
        (try simp only [Act.put]); (try simp only [List.setIfInBounds_toArray]); (try simp only [List.set_cons_succ]); (try simp only [List.set_cons_zero])
        refine wpAnyH_ready (rs := [6, 7]) (by kernel_rfl) (by simp) ?_
        refine AllReadyH.cons (o := { dst := none, op := Op.store 86 (Operand.tmp 20) (Operand.tmp 16), type := 0, pos := "array.go:130", after := #[{ on := 5, ground := Ground.data }, { on := 1, ground := Ground.data }, { on := 4, ground := Ground.chain }, { on := 0, ground := Ground.phase }, { on := 1, ground := Ground.phase }, { on := 2, ground := Ground.phase }, { on := 3, ground := Ground.phase }, { on := 4, ground := Ground.phase }, { on := 7, ground := Ground.gcOnly Departure.appendInPlace }], guard := none }) rfl (fun Kc hK => ?_) (AllReadyH.cons (o := { dst := none, op := Op.store 58 (Operand.tmp 3) (Operand.tmp 19), type := 0, pos := "array.go:130", after := #[{ on := 4, ground := Ground.data }, { on := 4, ground := Ground.chain }, { on := 6, ground := Ground.textOnly Departure.appendInPlace }, { on := 0, ground := Ground.phase }, { on := 1, ground := Ground.phase }, { on := 2, ground := Ground.phase }, { on := 3, ground := Ground.phase }, { on := 4, ground := Ground.phase }, { on := 5, ground := Ground.textOnly Departure.appendInPlace }, { on := 6, ground := Ground.textOnly Departure.appendInPlace }], guard := none }) rfl (fun Kc hK => ?_) AllReadyH.nil)
        · go_simp
          refine hK.out _ _ HX6.out (fun hHeld => ?_)
          clear hK Kc
          (try simp only [Act.put]); (try simp only [List.setIfInBounds_toArray]); (try simp only [List.set_cons_succ]); (try simp only [List.set_cons_zero])
          refine wpAnyH_ready (rs := [7]) (by kernel_rfl) (by simp) ?_
          refine AllReadyH.cons (o := { dst := none, op := Op.store 58 (Operand.tmp 3) (Operand.tmp 19), type := 0, pos := "array.go:130", after := #[{ on := 4, ground := Ground.data }, { on := 4, ground := Ground.chain }, { on := 6, ground := Ground.textOnly Departure.appendInPlace }, { on := 0, ground := Ground.phase }, { on := 1, ground := Ground.phase }, { on := 2, ground := Ground.phase }, { on := 3, ground := Ground.phase }, { on := 4, ground := Ground.phase }, { on := 5, ground := Ground.textOnly Departure.appendInPlace }, { on := 6, ground := Ground.textOnly Departure.appendInPlace }], guard := none }) rfl (fun Kc hK => ?_) AllReadyH.nil
          go_simp
          refine hK.out _ _ HX67.out (fun hHeld => ?_)
          clear hK Kc
          (try simp only [Act.put]); (try simp only [List.setIfInBounds_toArray]); (try simp only [List.set_cons_succ]); (try simp only [List.set_cons_zero])
          refine wpAnyH_done (by kernel_rfl) ?_ _
          exact HE67.out
        · go_simp
          refine hK.out _ _ HX7.out (fun hHeld => ?_)
          clear hK Kc
          (try simp only [Act.put]); (try simp only [List.setIfInBounds_toArray]); (try simp only [List.set_cons_succ]); (try simp only [List.set_cons_zero])
          refine wpAnyH_ready (rs := [6]) (by kernel_rfl) (by simp) ?_
          refine AllReadyH.cons (o := { dst := none, op := Op.store 86 (Operand.tmp 20) (Operand.tmp 16), type := 0, pos := "array.go:130", after := #[{ on := 5, ground := Ground.data }, { on := 1, ground := Ground.data }, { on := 4, ground := Ground.chain }, { on := 0, ground := Ground.phase }, { on := 1, ground := Ground.phase }, { on := 2, ground := Ground.phase }, { on := 3, ground := Ground.phase }, { on := 4, ground := Ground.phase }, { on := 7, ground := Ground.gcOnly Departure.appendInPlace }], guard := none }) rfl (fun Kc hK => ?_) AllReadyH.nil
          go_simp
          refine hK.out _ _ HX76.out (fun hHeld => ?_)
          clear hK Kc
          (try simp only [Act.put]); (try simp only [List.setIfInBounds_toArray]); (try simp only [List.set_cons_succ]); (try simp only [List.set_cons_zero])
          refine wpAnyH_done (by kernel_rfl) ?_ _
          exact HE76.out
      · go_simp
        refine hK.out _ _ HXZ.out (fun hHeld => ?_)
        clear hK Kc
        (try simp only [Act.put]); (try simp only [List.setIfInBounds_toArray]); (try simp only [List.set_cons_succ]); (try simp only [List.set_cons_zero])
        refine wpAnyH_ready (rs := [0]) (by kernel_rfl) (by simp) ?_
        refine AllReadyH.cons (o := { dst := some 15, op := Op.load 58 (Operand.tmp 3), type := 58, pos := "array.go:130", after := #[], guard := none }) rfl (fun Kc hK => ?_) AllReadyH.nil
        go_simp
        refine hK.out _ _ HXZ.out (fun hHeld => ?_)
        clear hK Kc
        (try simp only [Act.put]); (try simp only [List.setIfInBounds_toArray]); (try simp only [List.set_cons_succ]); (try simp only [List.set_cons_zero])
        refine wpAnyH_take (i := 2) (oi := { dst := some 17, op := Op.call { callee := Callee.builtin Builtin.len, args := #[Operand.tmp 15], argTypes := #[58] }, type := 3, pos := "array.go:130", after := #[{ on := 0, ground := Ground.data }], guard := none }) (v := ?v2d11) rfl (by kernel_rfl) (by kernel_rfl) (by kernel_rfl) (fun _ _ _ h => h) (Or.inl ⟨by rfl, ?y2d11⟩) (by assumption) ?r2d11
        case y2d11 => (intro w hSw; obtain ⟨s0, s1, s2, s3⟩ := hSw; go_simp; (try with_reducible rfl))
        (try simp only [Act.put]); (try simp only [List.setIfInBounds_toArray]); (try simp only [List.set_cons_succ]); (try simp only [List.set_cons_zero])
        refine wpAnyH_ready (rs := [4]) (by kernel_rfl) (by simp) ?_
        refine AllReadyH.cons (o := { dst := some 19, op := Op.call { callee := Callee.builtin Builtin.append, args := #[Operand.tmp 15, Operand.tmp 18], argTypes := #[58, 58] }, type := 58, pos := "array.go:130", after := #[{ on := 0, ground := Ground.data }, { on := 3, ground := Ground.data }, { on := 0, ground := Ground.phase }, { on := 1, ground := Ground.phase }, { on := 2, ground := Ground.phase }, { on := 3, ground := Ground.phase }], guard := none }) rfl (fun Kc hK => ?_) AllReadyH.nil
        refine step_append_run (P := Tryz.prog) rfl (.tmp 15) (.tmp 18) 58 58 rfl (.slice (some ⟨g, 0, none⟩) 1 L) (.slice (some ⟨Wd.heap.size, 0, none⟩) 1 1) (.slice (some ⟨g, 0, none⟩) 2 L) Z rfl rfl HAp.out ?_
        refine hK.out _ _ HXZ.out (fun hHeld => ?_)
        clear hK Kc
        (try simp only [Act.put]); (try simp only [List.setIfInBounds_toArray]); (try simp only [List.set_cons_succ]); (try simp only [List.set_cons_zero])
        refine wpAnyH_take (i := 5) (oi := { dst := some 20, op := Op.indexAddr 58 (Operand.tmp 19) (Operand.tmp 17), type := 0, pos := "array.go:130", after := #[{ on := 4, ground := Ground.data }, { on := 2, ground := Ground.data }, { on := 0, ground := Ground.phase }, { on := 1, ground := Ground.phase }, { on := 2, ground := Ground.phase }, { on := 3, ground := Ground.phase }, { on := 4, ground := Ground.phase }, { on := 7, ground := Ground.gcOnly Departure.appendInPlace }], guard := none }) (v := ?v5e11) rfl (by kernel_rfl) (by kernel_rfl) (by kernel_rfl) (fun _ _ _ h => h) (Or.inl ⟨by rfl, ?y5e11⟩) (by assumption) ?r5e11
        case y5e11 => (intro w hSw; obtain ⟨s0, s1, s2, s3⟩ := hSw; go_simp; (try with_reducible rfl))
        (try simp only [Act.put]); (try simp only [List.setIfInBounds_toArray]); (try simp only [List.set_cons_succ]); (try simp only [List.set_cons_zero])
        refine wpAnyH_ready (rs := [6, 7]) (by kernel_rfl) (by simp) ?_
        refine AllReadyH.cons (o := { dst := none, op := Op.store 86 (Operand.tmp 20) (Operand.tmp 16), type := 0, pos := "array.go:130", after := #[{ on := 5, ground := Ground.data }, { on := 1, ground := Ground.data }, { on := 4, ground := Ground.chain }, { on := 0, ground := Ground.phase }, { on := 1, ground := Ground.phase }, { on := 2, ground := Ground.phase }, { on := 3, ground := Ground.phase }, { on := 4, ground := Ground.phase }, { on := 7, ground := Ground.gcOnly Departure.appendInPlace }], guard := none }) rfl (fun Kc hK => ?_) (AllReadyH.cons (o := { dst := none, op := Op.store 58 (Operand.tmp 3) (Operand.tmp 19), type := 0, pos := "array.go:130", after := #[{ on := 4, ground := Ground.data }, { on := 4, ground := Ground.chain }, { on := 6, ground := Ground.textOnly Departure.appendInPlace }, { on := 0, ground := Ground.phase }, { on := 1, ground := Ground.phase }, { on := 2, ground := Ground.phase }, { on := 3, ground := Ground.phase }, { on := 4, ground := Ground.phase }, { on := 5, ground := Ground.textOnly Departure.appendInPlace }, { on := 6, ground := Ground.textOnly Departure.appendInPlace }], guard := none }) rfl (fun Kc hK => ?_) AllReadyH.nil)
        · go_simp
          refine hK.out _ _ HX6.out (fun hHeld => ?_)
          clear hK Kc
          (try simp only [Act.put]); (try simp only [List.setIfInBounds_toArray]); (try simp only [List.set_cons_succ]); (try simp only [List.set_cons_zero])
          refine wpAnyH_ready (rs := [7]) (by kernel_rfl) (by simp) ?_
          refine AllReadyH.cons (o := { dst := none, op := Op.store 58 (Operand.tmp 3) (Operand.tmp 19), type := 0, pos := "array.go:130", after := #[{ on := 4, ground := Ground.data }, { on := 4, ground := Ground.chain }, { on := 6, ground := Ground.textOnly Departure.appendInPlace }, { on := 0, ground := Ground.phase }, { on := 1, ground := Ground.phase }, { on := 2, ground := Ground.phase }, { on := 3, ground := Ground.phase }, { on := 4, ground := Ground.phase }, { on := 5, ground := Ground.textOnly Departure.appendInPlace }, { on := 6, ground := Ground.textOnly Departure.appendInPlace }], guard := none }) rfl (fun Kc hK => ?_) AllReadyH.nil
          go_simp
          refine hK.out _ _ HX67.out (fun hHeld => ?_)
          clear hK Kc
          (try simp only [Act.put]); (try simp only [List.setIfInBounds_toArray]); (try simp only [List.set_cons_succ]); (try simp only [List.set_cons_zero])
          refine wpAnyH_done (by kernel_rfl) ?_ _
          exact HE67.out
        · go_simp
          refine hK.out _ _ HX7.out (fun hHeld => ?_)
          clear hK Kc
          (try simp only [Act.put]); (try simp only [List.setIfInBounds_toArray]); (try simp only [List.set_cons_succ]); (try simp only [List.set_cons_zero])
          refine wpAnyH_ready (rs := [6]) (by kernel_rfl) (by simp) ?_
          refine AllReadyH.cons (o := { dst := none, op := Op.store 86 (Operand.tmp 20) (Operand.tmp 16), type := 0, pos := "array.go:130", after := #[{ on := 5, ground := Ground.data }, { on := 1, ground := Ground.data }, { on := 4, ground := Ground.chain }, { on := 0, ground := Ground.phase }, { on := 1, ground := Ground.phase }, { on := 2, ground := Ground.phase }, { on := 3, ground := Ground.phase }, { on := 4, ground := Ground.phase }, { on := 7, ground := Ground.gcOnly Departure.appendInPlace }], guard := none }) rfl (fun Kc hK => ?_) AllReadyH.nil
          go_simp
          refine hK.out _ _ HX76.out (fun hHeld => ?_)
          clear hK Kc
          (try simp only [Act.put]); (try simp only [List.setIfInBounds_toArray]); (try simp only [List.set_cons_succ]); (try simp only [List.set_cons_zero])
          refine wpAnyH_done (by kernel_rfl) ?_ _
          exact HE76.out
    · have hvb : Wr.heap[Bx]? = some (.cells #[.bool false, .int .i64 (xs 2), .string ⟨#[]⟩, .slice none 0 0] 86) := hbx
      obtain ⟨Wd, hWd⟩ : ∃ Wd, Wr.drew = Wd := ⟨_, rfl⟩
      have gd : Gr Wr Wd := by rw [← hWd]; exact gr_drew
      obtain ⟨Z, hZ⟩ : ∃ Z, Wd.alloc (.cells #[.bool false, .int .i64 0, .string ⟨#[]⟩, .slice none 0 0] 86) = Z := ⟨_, rfl⟩
      have gZ0 : Gr Wd Z := by rw [← hZ]; exact gr_alloc Wd _
      have gZ : Gr Wr Z := gd.trans gZ0 (fun _ _ h => h)
      have hzz : Z.heap[Wd.heap.size]? = some (.cells #[.bool false, .int .i64 0, .string ⟨#[]⟩, .slice none 0 0] 86) := by rw [← hZ]; exact heap_alloc_new Wd _
      obtain ⟨z1, z2, z3, z4, z5, z6⟩ := val_step (o := 8) hL hx2 rfl gW0 hgr hbr gZ hlg hlb
      have HAp := hidM (fun ty => append_room hL hx2 z1 hzz ty)
      obtain ⟨U6, hU6⟩ : ∃ U6, rwU Z g 8 false (xs 2) = U6 := ⟨_, rfl⟩
      obtain ⟨U67, hU67⟩ : ∃ U67, U6.setCell ⟨A0.heap.size, 0, none⟩ (.slice (some ⟨g, 0, none⟩) 3 L) = U67 := ⟨_, rfl⟩
      obtain ⟨U7, hU7⟩ : ∃ U7, Z.setCell ⟨A0.heap.size, 0, none⟩ (.slice (some ⟨g, 0, none⟩) 3 L) = U7 := ⟨_, rfl⟩
      obtain ⟨U76, hU76⟩ : ∃ U76, rwU U7 g 8 false (xs 2) = U76 := ⟨_, rfl⟩
      rw [hU6] at z3 z5
      rw [hU67] at z5
      rw [hU7] at z4 z6
      rw [hU76] at z6
      have hcl : ∀ u, Keeps Wr u (fun b => b = g ∨ b = A0.heap.size) → u.cell? ⟨Bx, 0, none⟩ = some (.bool false) ∧ u.cell? ⟨Bx, 1, none⟩ = some (.int .i64 (xs 2)) ∧ u.cell? ⟨Bx, 2, none⟩ = some (.string ⟨#[]⟩) ∧ u.cell? ⟨Bx, 3, none⟩ = some (.slice none 0 0) := fun u h => cell4 ((h.block Bx (lt_of_heap hvb) (fun e => by rcases e with e | e <;> omega)).trans hvb)
      have HXd := hidM (hcl Wd (gd.mono fun _ _ h => h.elim))
      have HXZ := hidM (hcl Z (gZ.mono fun _ _ h => h.elim))
      have k6 : Keeps Wr U6 (fun b => b = g ∨ b = A0.heap.size) := by rw [← hU6]; exact (gZ.mono fun _ _ h => h.elim).trans (setAll_kp _ _ _) (fun _ _ h => .inl h)
      have k7 : Keeps Wr U7 (fun b => b = g ∨ b = A0.heap.size) := by rw [← hU7]; exact Keeps.setCell (S := fun b => b = g ∨ b = A0.heap.size) (p := ⟨A0.heap.size, 0, none⟩) (gZ.mono fun _ _ h => h.elim) (fun _ => .inr rfl) _
      have HX6 := hidM (hcl U6 k6)
      have HX67 := hidM (hcl U67 z5.1)
      have HX7 := hidM (hcl U7 k7)
      have HX76 := hidM (hcl U76 z6.1)
      have HE67 := hidM z5
      have HE76 := hidM z6
      obtain ⟨i0, i1, i2, i3⟩ := rowCells (o := 8) hL hx2 rfl z1
      obtain ⟨j0, j1, j2, j3⟩ := rowCells (o := 8) hL hx2 rfl z4
      have b0 := cell1 ((gd.block _ (lt_of_heap hbr) id).trans hbr)
      have b1 := cell1 z2
      have b6 := cell1 z3
      have f2 := frz z2 0
      have f3 := frz z3 0
      have f1 := frzA z1
      have f4 := frzA z4
      simp only [rwU, setAll] at hU6 hU76
      clear gd gZ0 gZ hzz z1 z2 z3 z4 z5 z6 hcl k6 k7 hvb hbx gW0 hgr hbr hz hO hBx hlg hlb zz0 zz1 zz2 hg hg'
      gi_wp2_with fail
      refine region_round (S := fun w' => w'.cell? ⟨Bx, 0, none⟩ = some (.bool false) ∧ w'.cell? ⟨Bx, 1, none⟩ = some (.int .i64 (xs 2)) ∧ w'.cell? ⟨Bx, 2, none⟩ = some (.string ⟨#[]⟩) ∧ w'.cell? ⟨Bx, 3, none⟩ = some (.slice none 0 0)) (by kernel_rfl) (noDefer_spec (by kernel_rfl)) (fun ⟨_, _, h⟩ => h) ?_
      rw [hWd]
      have hHeld : (fun w' : World => w'.cell? ⟨Bx, 0, none⟩ = some (.bool false) ∧ w'.cell? ⟨Bx, 1, none⟩ = some (.int .i64 (xs 2)) ∧ w'.cell? ⟨Bx, 2, none⟩ = some (.string ⟨#[]⟩) ∧ w'.cell? ⟨Bx, 3, none⟩ = some (.slice none 0 0)) Wd := HXd.out
      refine wpAnyH_take (i := 1) (oi := { dst := some 16, op := Op.load 86 (Operand.tmp 5), type := 86, pos := "array.go:130", after := #[], guard := none }) (v := ?v1a21) rfl (by kernel_rfl) (by kernel_rfl) (by kernel_rfl) (fun _ _ _ h => h) (Or.inl ⟨by rfl, ?y1a21⟩) (by assumption) ?r1a21
      case y1a21 => (intro w hSw; obtain ⟨s0, s1, s2, s3⟩ := hSw; go_simp; (try with_reducible rfl))
      (try simp only [Act.put]); (try simp only [List.setIfInBounds_toArray]); (try simp only [List.set_cons_succ]); (try simp only [List.set_cons_zero])
      refine wpAnyH_ready (rs := [0, 3]) (by kernel_rfl) (by simp) ?_
      refine AllReadyH.cons (o := { dst := some 15, op := Op.load 58 (Operand.tmp 3), type := 58, pos := "array.go:130", after := #[], guard := none }) rfl (fun Kc hK => ?_) (AllReadyH.cons (o := { dst := some 18, op := Op.buildSlice 58 1 #[(0, Operand.const (Value.agg #[Value.bool false, Value.int IntKind.i64 0, Value.string { data := #[] }, Value.slice none 0 0]))], type := 58, pos := "array.go:130", after := #[], guard := none }) rfl (fun Kc hK => ?_) AllReadyH.nil)
      · go_simp
        refine hK.out _ _ HXd.out (fun hHeld => ?_)
        clear hK Kc
        (try simp only [Act.put]); (try simp only [List.setIfInBounds_toArray]); (try simp only [List.set_cons_succ]); (try simp only [List.set_cons_zero])
        refine wpAnyH_take (i := 2) (oi := { dst := some 17, op := Op.call { callee := Callee.builtin Builtin.len, args := #[Operand.tmp 15], argTypes := #[58] }, type := 3, pos := "array.go:130", after := #[{ on := 0, ground := Ground.data }], guard := none }) (v := ?v2b21) rfl (by kernel_rfl) (by kernel_rfl) (by kernel_rfl) (fun _ _ _ h => h) (Or.inl ⟨by rfl, ?y2b21⟩) (by assumption) ?r2b21
        case y2b21 => (intro w hSw; obtain ⟨s0, s1, s2, s3⟩ := hSw; go_simp; (try with_reducible rfl))
        (try simp only [Act.put]); (try simp only [List.setIfInBounds_toArray]); (try simp only [List.set_cons_succ]); (try simp only [List.set_cons_zero])
        refine wpAnyH_ready (rs := [3]) (by kernel_rfl) (by simp) ?_
        refine AllReadyH.cons (o := { dst := some 18, op := Op.buildSlice 58 1 #[(0, Operand.const (Value.agg #[Value.bool false, Value.int IntKind.i64 0, Value.string { data := #[] }, Value.slice none 0 0]))], type := 58, pos := "array.go:130", after := #[], guard := none }) rfl (fun Kc hK => ?_) AllReadyH.nil
        go_simp
        refine hK.out _ _ HXZ.out (fun hHeld => ?_)
        clear hK Kc
        (try simp only [Act.put]); (try simp only [List.setIfInBounds_toArray]); (try simp only [List.set_cons_succ]); (try simp only [List.set_cons_zero])
        refine wpAnyH_ready (rs := [4]) (by kernel_rfl) (by simp) ?_
        refine AllReadyH.cons (o := { dst := some 19, op := Op.call { callee := Callee.builtin Builtin.append, args := #[Operand.tmp 15, Operand.tmp 18], argTypes := #[58, 58] }, type := 58, pos := "array.go:130", after := #[{ on := 0, ground := Ground.data }, { on := 3, ground := Ground.data }, { on := 0, ground := Ground.phase }, { on := 1, ground := Ground.phase }, { on := 2, ground := Ground.phase }, { on := 3, ground := Ground.phase }], guard := none }) rfl (fun Kc hK => ?_) AllReadyH.nil
        refine step_append_run (P := Tryz.prog) rfl (.tmp 15) (.tmp 18) 58 58 rfl (.slice (some ⟨g, 0, none⟩) 2 L) (.slice (some ⟨Wd.heap.size, 0, none⟩) 1 1) (.slice (some ⟨g, 0, none⟩) 3 L) Z rfl rfl HAp.out ?_
        refine hK.out _ _ HXZ.out (fun hHeld => ?_)
        clear hK Kc
        (try simp only [Act.put]); (try simp only [List.setIfInBounds_toArray]); (try simp only [List.set_cons_succ]); (try simp only [List.set_cons_zero])
        refine wpAnyH_take (i := 5) (oi := { dst := some 20, op := Op.indexAddr 58 (Operand.tmp 19) (Operand.tmp 17), type := 0, pos := "array.go:130", after := #[{ on := 4, ground := Ground.data }, { on := 2, ground := Ground.data }, { on := 0, ground := Ground.phase }, { on := 1, ground := Ground.phase }, { on := 2, ground := Ground.phase }, { on := 3, ground := Ground.phase }, { on := 4, ground := Ground.phase }, { on := 7, ground := Ground.gcOnly Departure.appendInPlace }], guard := none }) (v := ?v5c21) rfl (by kernel_rfl) (by kernel_rfl) (by kernel_rfl) (fun _ _ _ h => h) (Or.inl ⟨by rfl, ?y5c21⟩) (by assumption) ?r5c21
        case y5c21 => (intro w hSw; obtain ⟨s0, s1, s2, s3⟩ := hSw; go_simp; (try with_reducible rfl))
        (try simp only [Act.put]); (try simp only [List.setIfInBounds_toArray]); (try simp only [List.set_cons_succ]); (try simp only [List.set_cons_zero])
        refine wpAnyH_ready (rs := [6, 7]) (by kernel_rfl) (by simp) ?_
        refine AllReadyH.cons (o := { dst := none, op := Op.store 86 (Operand.tmp 20) (Operand.tmp 16), type := 0, pos := "array.go:130", after := #[{ on := 5, ground := Ground.data }, { on := 1, ground := Ground.data }, { on := 4, ground := Ground.chain }, { on := 0, ground := Ground.phase }, { on := 1, ground := Ground.phase }, { on := 2, ground := Ground.phase }, { on := 3, ground := Ground.phase }, { on := 4, ground := Ground.phase }, { on := 7, ground := Ground.gcOnly Departure.appendInPlace }], guard := none }) rfl (fun Kc hK => ?_) (AllReadyH.cons (o := { dst := none, op := Op.store 58 (Operand.tmp 3) (Operand.tmp 19), type := 0, pos := "array.go:130", after := #[{ on := 4, ground := Ground.data }, { on := 4, ground := Ground.chain }, { on := 6, ground := Ground.textOnly Departure.appendInPlace }, { on := 0, ground := Ground.phase }, { on := 1, ground := Ground.phase }, { on := 2, ground := Ground.phase }, { on := 3, ground := Ground.phase }, { on := 4, ground := Ground.phase }, { on := 5, ground := Ground.textOnly Departure.appendInPlace }, { on := 6, ground := Ground.textOnly Departure.appendInPlace }], guard := none }) rfl (fun Kc hK => ?_) AllReadyH.nil)
        · go_simp
          refine hK.out _ _ HX6.out (fun hHeld => ?_)
          clear hK Kc
          (try simp only [Act.put]); (try simp only [List.setIfInBounds_toArray]); (try simp only [List.set_cons_succ]); (try simp only [List.set_cons_zero])
          refine wpAnyH_ready (rs := [7]) (by kernel_rfl) (by simp) ?_
          refine AllReadyH.cons (o := { dst := none, op := Op.store 58 (Operand.tmp 3) (Operand.tmp 19), type := 0, pos := "array.go:130", after := #[{ on := 4, ground := Ground.data }, { on := 4, ground := Ground.chain }, { on := 6, ground := Ground.textOnly Departure.appendInPlace }, { on := 0, ground := Ground.phase }, { on := 1, ground := Ground.phase }, { on := 2, ground := Ground.phase }, { on := 3, ground := Ground.phase }, { on := 4, ground := Ground.phase }, { on := 5, ground := Ground.textOnly Departure.appendInPlace }, { on := 6, ground := Ground.textOnly Departure.appendInPlace }], guard := none }) rfl (fun Kc hK => ?_) AllReadyH.nil
          go_simp
          refine hK.out _ _ HX67.out (fun hHeld => ?_)
          clear hK Kc
          (try simp only [Act.put]); (try simp only [List.setIfInBounds_toArray]); (try simp only [List.set_cons_succ]); (try simp only [List.set_cons_zero])
          refine wpAnyH_done (by kernel_rfl) ?_ _
          exact HE67.out
        · go_simp
          refine hK.out _ _ HX7.out (fun hHeld => ?_)
          clear hK Kc
          (try simp only [Act.put]); (try simp only [List.setIfInBounds_toArray]); (try simp only [List.set_cons_succ]); (try simp only [List.set_cons_zero])
          refine wpAnyH_ready (rs := [6]) (by kernel_rfl) (by simp) ?_
          refine AllReadyH.cons (o := { dst := none, op := Op.store 86 (Operand.tmp 20) (Operand.tmp 16), type := 0, pos := "array.go:130", after := #[{ on := 5, ground := Ground.data }, { on := 1, ground := Ground.data }, { on := 4, ground := Ground.chain }, { on := 0, ground := Ground.phase }, { on := 1, ground := Ground.phase }, { on := 2, ground := Ground.phase }, { on := 3, ground := Ground.phase }, { on := 4, ground := Ground.phase }, { on := 7, ground := Ground.gcOnly Departure.appendInPlace }], guard := none }) rfl (fun Kc hK => ?_) AllReadyH.nil
          go_simp
          refine hK.out _ _ HX76.out (fun hHeld => ?_)
          clear hK Kc
          (try simp only [Act.put]); (try simp only [List.setIfInBounds_toArray]); (try simp only [List.set_cons_succ]); (try simp only [List.set_cons_zero])
          refine wpAnyH_done (by kernel_rfl) ?_ _
          exact HE76.out
      · go_simp
        refine hK.out _ _ HXZ.out (fun hHeld => ?_)
        clear hK Kc
        (try simp only [Act.put]); (try simp only [List.setIfInBounds_toArray]); (try simp only [List.set_cons_succ]); (try simp only [List.set_cons_zero])
        refine wpAnyH_ready (rs := [0]) (by kernel_rfl) (by simp) ?_
        refine AllReadyH.cons (o := { dst := some 15, op := Op.load 58 (Operand.tmp 3), type := 58, pos := "array.go:130", after := #[], guard := none }) rfl (fun Kc hK => ?_) AllReadyH.nil
        go_simp
        refine hK.out _ _ HXZ.out (fun hHeld => ?_)
        clear hK Kc
        (try simp only [Act.put]); (try simp only [List.setIfInBounds_toArray]); (try simp only [List.set_cons_succ]); (try simp only [List.set_cons_zero])
        refine wpAnyH_take (i := 2) (oi := { dst := some 17, op := Op.call { callee := Callee.builtin Builtin.len, args := #[Operand.tmp 15], argTypes := #[58] }, type := 3, pos := "array.go:130", after := #[{ on := 0, ground := Ground.data }], guard := none }) (v := ?v2d21) rfl (by kernel_rfl) (by kernel_rfl) (by kernel_rfl) (fun _ _ _ h => h) (Or.inl ⟨by rfl, ?y2d21⟩) (by assumption) ?r2d21
        case y2d21 => (intro w hSw; obtain ⟨s0, s1, s2, s3⟩ := hSw; go_simp; (try with_reducible rfl))
        (try simp only [Act.put]); (try simp only [List.setIfInBounds_toArray]); (try simp only [List.set_cons_succ]); (try simp only [List.set_cons_zero])
        refine wpAnyH_ready (rs := [4]) (by kernel_rfl) (by simp) ?_
        refine AllReadyH.cons (o := { dst := some 19, op := Op.call { callee := Callee.builtin Builtin.append, args := #[Operand.tmp 15, Operand.tmp 18], argTypes := #[58, 58] }, type := 58, pos := "array.go:130", after := #[{ on := 0, ground := Ground.data }, { on := 3, ground := Ground.data }, { on := 0, ground := Ground.phase }, { on := 1, ground := Ground.phase }, { on := 2, ground := Ground.phase }, { on := 3, ground := Ground.phase }], guard := none }) rfl (fun Kc hK => ?_) AllReadyH.nil
        refine step_append_run (P := Tryz.prog) rfl (.tmp 15) (.tmp 18) 58 58 rfl (.slice (some ⟨g, 0, none⟩) 2 L) (.slice (some ⟨Wd.heap.size, 0, none⟩) 1 1) (.slice (some ⟨g, 0, none⟩) 3 L) Z rfl rfl HAp.out ?_
        refine hK.out _ _ HXZ.out (fun hHeld => ?_)
        clear hK Kc
        (try simp only [Act.put]); (try simp only [List.setIfInBounds_toArray]); (try simp only [List.set_cons_succ]); (try simp only [List.set_cons_zero])
        refine wpAnyH_take (i := 5) (oi := { dst := some 20, op := Op.indexAddr 58 (Operand.tmp 19) (Operand.tmp 17), type := 0, pos := "array.go:130", after := #[{ on := 4, ground := Ground.data }, { on := 2, ground := Ground.data }, { on := 0, ground := Ground.phase }, { on := 1, ground := Ground.phase }, { on := 2, ground := Ground.phase }, { on := 3, ground := Ground.phase }, { on := 4, ground := Ground.phase }, { on := 7, ground := Ground.gcOnly Departure.appendInPlace }], guard := none }) (v := ?v5e21) rfl (by kernel_rfl) (by kernel_rfl) (by kernel_rfl) (fun _ _ _ h => h) (Or.inl ⟨by rfl, ?y5e21⟩) (by assumption) ?r5e21
        case y5e21 => (intro w hSw; obtain ⟨s0, s1, s2, s3⟩ := hSw; go_simp; (try with_reducible rfl))
        (try simp only [Act.put]); (try simp only [List.setIfInBounds_toArray]); (try simp only [List.set_cons_succ]); (try simp only [List.set_cons_zero])
        refine wpAnyH_ready (rs := [6, 7]) (by kernel_rfl) (by simp) ?_
        refine AllReadyH.cons (o := { dst := none, op := Op.store 86 (Operand.tmp 20) (Operand.tmp 16), type := 0, pos := "array.go:130", after := #[{ on := 5, ground := Ground.data }, { on := 1, ground := Ground.data }, { on := 4, ground := Ground.chain }, { on := 0, ground := Ground.phase }, { on := 1, ground := Ground.phase }, { on := 2, ground := Ground.phase }, { on := 3, ground := Ground.phase }, { on := 4, ground := Ground.phase }, { on := 7, ground := Ground.gcOnly Departure.appendInPlace }], guard := none }) rfl (fun Kc hK => ?_) (AllReadyH.cons (o := { dst := none, op := Op.store 58 (Operand.tmp 3) (Operand.tmp 19), type := 0, pos := "array.go:130", after := #[{ on := 4, ground := Ground.data }, { on := 4, ground := Ground.chain }, { on := 6, ground := Ground.textOnly Departure.appendInPlace }, { on := 0, ground := Ground.phase }, { on := 1, ground := Ground.phase }, { on := 2, ground := Ground.phase }, { on := 3, ground := Ground.phase }, { on := 4, ground := Ground.phase }, { on := 5, ground := Ground.textOnly Departure.appendInPlace }, { on := 6, ground := Ground.textOnly Departure.appendInPlace }], guard := none }) rfl (fun Kc hK => ?_) AllReadyH.nil)
        · go_simp
          refine hK.out _ _ HX6.out (fun hHeld => ?_)
          clear hK Kc
          (try simp only [Act.put]); (try simp only [List.setIfInBounds_toArray]); (try simp only [List.set_cons_succ]); (try simp only [List.set_cons_zero])
          refine wpAnyH_ready (rs := [7]) (by kernel_rfl) (by simp) ?_
          refine AllReadyH.cons (o := { dst := none, op := Op.store 58 (Operand.tmp 3) (Operand.tmp 19), type := 0, pos := "array.go:130", after := #[{ on := 4, ground := Ground.data }, { on := 4, ground := Ground.chain }, { on := 6, ground := Ground.textOnly Departure.appendInPlace }, { on := 0, ground := Ground.phase }, { on := 1, ground := Ground.phase }, { on := 2, ground := Ground.phase }, { on := 3, ground := Ground.phase }, { on := 4, ground := Ground.phase }, { on := 5, ground := Ground.textOnly Departure.appendInPlace }, { on := 6, ground := Ground.textOnly Departure.appendInPlace }], guard := none }) rfl (fun Kc hK => ?_) AllReadyH.nil
          go_simp
          refine hK.out _ _ HX67.out (fun hHeld => ?_)
          clear hK Kc
          (try simp only [Act.put]); (try simp only [List.setIfInBounds_toArray]); (try simp only [List.set_cons_succ]); (try simp only [List.set_cons_zero])
          refine wpAnyH_done (by kernel_rfl) ?_ _
          exact HE67.out
        · go_simp
          refine hK.out _ _ HX7.out (fun hHeld => ?_)
          clear hK Kc
          (try simp only [Act.put]); (try simp only [List.setIfInBounds_toArray]); (try simp only [List.set_cons_succ]); (try simp only [List.set_cons_zero])
          refine wpAnyH_ready (rs := [6]) (by kernel_rfl) (by simp) ?_
          refine AllReadyH.cons (o := { dst := none, op := Op.store 86 (Operand.tmp 20) (Operand.tmp 16), type := 0, pos := "array.go:130", after := #[{ on := 5, ground := Ground.data }, { on := 1, ground := Ground.data }, { on := 4, ground := Ground.chain }, { on := 0, ground := Ground.phase }, { on := 1, ground := Ground.phase }, { on := 2, ground := Ground.phase }, { on := 3, ground := Ground.phase }, { on := 4, ground := Ground.phase }, { on := 7, ground := Ground.gcOnly Departure.appendInPlace }], guard := none }) rfl (fun Kc hK => ?_) AllReadyH.nil
          go_simp
          refine hK.out _ _ HX76.out (fun hHeld => ?_)
          clear hK Kc
          (try simp only [Act.put]); (try simp only [List.setIfInBounds_toArray]); (try simp only [List.set_cons_succ]); (try simp only [List.set_cons_zero])
          refine wpAnyH_done (by kernel_rfl) ?_ _
          exact HE76.out
  case done =>
    rintro ys Wr rfl ⟨k, hk, hpre, gW0, hgr, hbr⟩ hz hd
    have hkx : k = L := by have := congrArg List.length hpre; simpa using this.symm
    subst hkx
    have c0 := cell1 hbr
    have HE : Hid (Gr W (Wr.putObj w2.heap.size (.deferred none)) ∧ (Wr.putObj w2.heap.size (.deferred none)).heap[g]? = some (.cells (rowK xs k k) 86)) := by
      refine ⟨gW0.trans (T := fun k => k = w2.heap.size) (keeps_put _ _ _) (fun j hj h => by have h' : j = w2.heap.size := h; omega), (World.putObj_heap_other (by omega)).trans hgr⟩
    have HD := hidM hd
    have HL : Hid (W.heap.size ≤ g) := (by omega : W.heap.size ≤ g)
    clear hk hpre gW0 hgr hbr hd hz HSeq H0 HA hmk hA0 hA1 a0 a1 a2 a3 HZ zz0 zz1 zz2 hg' hg
    go_wp2_with fail
    refine ⟨by simp, .inl ⟨_, _, rfl, run_takeDeferred HD.out, ?_⟩⟩
    refine ⟨.slice (some ⟨g, 0, none⟩) k k, ?_, g, rfl, HE.out.1, HL.out, HE.out.2⟩
    simp [results, Tryz.f50, go_sem]
  case stop => intro c pre W h1 h2; exact h2.elim
end Go.Proofs.YteggcdhibcjneaaGreatDoor.Kit
