import Derived.Test.YtomlndoffoeaiaaReadsR
import Derived.Test.YtomlndoffoeaiaaReadsT
namespace Go.Proofs.Ytomlndoffoeaiaa.Kit
open Go.RowKit Go.Deep
set_option linter.unusedVariables false

set_option maxRecDepth 100000 in
set_option maxHeartbeats 4000000 in
theorem step_num (m bl nl cl i : Nat) (o a b : Int) (ao : Option Addr) (n cap : Nat) (place : Int) (q : Option Nat) (ao' : Option Addr) (n' cap' : Nat) (place' who : Int) (w4 : Nat) (T : World → World → Prop) (w : World) (ho0 : -9223372036854775808 ≤ o) (ho1 : o ≤ 9223372036854775807) (hl0 : 0 < nl) (hl1 : nl ≤ 40) (hi : pickV o nl = i)
    (h2 : w.cell? ⟨m, 2, none⟩ = some (.slice (some ⟨bl, 0, none⟩) nl cl)) (hx : SeenAt w bl i (.slice ao n cap) (.int .i64 place) (.pointer (q.map fun b => ⟨b, 0, none⟩)) (.slice ao' n' cap') (.int .i64 place') (.int .i64 who))
    (h4 : pickV o 4 = w4) (h : ∀ W, Keeps w W (fun _ => False) → Calls Try.prog 46 #[.pointer (some ⟨m, 0, none⟩), seenV ao n cap place q ao' n' cap' place' who, .int .i64 (w4 : Int), .int .i64 a, .int .i64 b] W fun e w' => e = .returned (.bool true) ∧ T W w')
    (hT : ∀ W w' bb x, Keeps w W (fun _ => False) → T W w' → w.heap.size ≤ bb → W.heap[bb]? = some x → w'.heap[bb]? = some x) :
    Calls Try.prog 9 #[.pointer (some ⟨m, 0, none⟩), opV 7 o a b] w fun e w' => e = .returned (.bool true) ∧ ∃ W, Keeps w W (fun _ => False) ∧ T W w' := by
  have H := hidM h
  have HT := hidM hT
  have H4 := hidM h4
  clear h hT h4
  unfold opV
  go_enter Try.func9, Try.ntmps9
  go_wp2
  obtain ⟨W, hW⟩ : ∃ W, W = w.alloc (.cells #[.int .i64 7, .int .i64 o, .int .i64 a, .int .i64 b] 29) := ⟨_, rfl⟩
  obtain ⟨B, hB⟩ : ∃ B, B = w.heap.size := ⟨_, rfl⟩
  rw [← hW, ← hB]
  have hrow : W.heap[B]? = some (.cells #[.int .i64 7, .int .i64 o, .int .i64 a, .int .i64 b] 29 (0, 0)) := by rw [hW, hB]; exact heap_alloc_new w _
  have HK : Hid (Keeps w W (fun _ => False)) := by rw [hW]; exact (Keeps.refl _ _).alloc _
  have HBB := hidM hB
  have HR : Hid (W.heap[B]? = some (.cells #[.int .i64 7, .int .i64 o, .int .i64 a, .int .i64 b] 29 (0, 0))) := hrow
  have b1 : W.cell? ⟨B, 1, none⟩ = some (.int .i64 o) := by rw [cell_of_row _ _ 1 _ _ _ hrow]; rfl
  have c2 := HK.out.cell' h2 id
  obtain ⟨y0, y1, y2, y3, y4, y5⟩ := hx
  have z0 := HK.out.cell' y0 id
  have z1 := HK.out.cell' y1 id
  have z2 := HK.out.cell' y2 id
  have z3 := HK.out.cell' y3 id
  have z4 := HK.out.cell' y4 id
  have z5 := HK.out.cell' y5 id
  have hil : i < nl := by have := pickV_bd o nl (by omega); omega
  have HI : Hid (pickV o nl = i) := hi
  clear hW hB hrow h2 y0 y1 y2 y3 y4 y5 hi
  go_region_held3 (fun w' => w'.cell? ⟨m, 2, none⟩ = some (.slice (some ⟨bl, 0, none⟩) nl cl) ∧ w'.cell? ⟨B, 1, none⟩ = some (.int .i64 o) ∧ w'.cell? ⟨bl, i * 6, none⟩ = some (.slice ao n cap) ∧ w'.cell? ⟨bl, i * 6 + 1, none⟩ = some (.int .i64 place) ∧ w'.cell? ⟨bl, i * 6 + 2, none⟩ = some (.pointer (q.map fun b => ⟨b, 0, none⟩)) ∧ w'.cell? ⟨bl, i * 6 + 3, none⟩ = some (.slice ao' n' cap') ∧ w'.cell? ⟨bl, i * 6 + 4, none⟩ = some (.int .i64 place') ∧ w'.cell? ⟨bl, i * 6 + 5, none⟩ = some (.int .i64 who)) (go_keep) ((go_at_call 33; refine (pick_any o nl _ ho0 ho1 (by omega) (by omega)).mono ?_; rw [HI.out]; rintro e w9 ⟨rfl, rfl⟩))
  · clear c2 b1 z0 z1 z2 z3 z4 z5
    have KW := Keeps.none_alloc_drew' W (.cells #[.slice ao n cap, .int .i64 place, .pointer (q.map fun b => ⟨b, 0, none⟩), .slice ao' n' cap', .int .i64 place', .int .i64 who] 93)
    have hs : (W.alloc (.cells #[.slice ao n cap, .int .i64 place, .pointer (q.map fun b => ⟨b, 0, none⟩), .slice ao' n' cap', .int .i64 place', .int .i64 who] 93)).drew.heap[W.heap.size]? = some (.cells #[.slice ao n cap, .int .i64 place, .pointer (q.map fun b => ⟨b, 0, none⟩), .slice ao' n' cap', .int .i64 place', .int .i64 who] 93 (0, 0)) := heap_alloc_new W _
    have hr := KW.row HR.out id
    have hk : Keeps w (W.alloc (.cells #[.slice ao n cap, .int .i64 place, .pointer (q.map fun b => ⟨b, 0, none⟩), .slice ao' n' cap', .int .i64 place', .int .i64 who] 93)).drew (fun _ => False) := HK.out.trans KW fun _ _ e => e
    have HXw := hidM HK.out.size
    clear KW HR HK
    generalize (W.alloc (.cells #[.slice ao n cap, .int .i64 place, .pointer (q.map fun b => ⟨b, 0, none⟩), .slice ao' n' cap', .int .i64 place', .int .i64 who] 93)).drew = W' at *
    generalize W.heap.size = X at *
    obtain ⟨d0, d1, d2, d3⟩ := boxCells4 hr
    obtain ⟨e0, e1, e2, e3, e4, e5⟩ := boxCells6 hs
    have HK : Hid (Keeps w W' (fun _ => False)) := hk
    have HRb := hidM hr
    have HSb := hidM hs
    clear hr hs hk
    go_wp2_with fail
    have HH : Hid (W'.drew.cell? ⟨X, 0, none⟩ = some (.slice ao n cap) ∧ W'.drew.cell? ⟨X, 1, none⟩ = some (.int .i64 place) ∧ W'.drew.cell? ⟨X, 2, none⟩ = some (.pointer (q.map fun b => ⟨b, 0, none⟩)) ∧ W'.drew.cell? ⟨X, 3, none⟩ = some (.slice ao' n' cap') ∧ W'.drew.cell? ⟨X, 4, none⟩ = some (.int .i64 place') ∧ W'.drew.cell? ⟨X, 5, none⟩ = some (.int .i64 who) ∧ W'.drew.cell? ⟨B, 1, none⟩ = some (.int .i64 o) ∧ W'.drew.cell? ⟨B, 2, none⟩ = some (.int .i64 a) ∧ W'.drew.cell? ⟨B, 3, none⟩ = some (.int .i64 b)) := ⟨e0, e1, e2, e3, e4, e5, d1, d2, d3⟩
    refine wp_region_held_drew (S := fun w' => w'.cell? ⟨X, 0, none⟩ = some (.slice ao n cap) ∧ w'.cell? ⟨X, 1, none⟩ = some (.int .i64 place) ∧ w'.cell? ⟨X, 2, none⟩ = some (.pointer (q.map fun b => ⟨b, 0, none⟩)) ∧ w'.cell? ⟨X, 3, none⟩ = some (.slice ao' n' cap') ∧ w'.cell? ⟨X, 4, none⟩ = some (.int .i64 place') ∧ w'.cell? ⟨X, 5, none⟩ = some (.int .i64 who) ∧ w'.cell? ⟨B, 1, none⟩ = some (.int .i64 o) ∧ w'.cell? ⟨B, 2, none⟩ = some (.int .i64 a) ∧ w'.cell? ⟨B, 3, none⟩ = some (.int .i64 b)) (by kernel_rfl) HH.out (fun hHeld => ?_)
    refine wpAnyH_take (i := 0) (oi := { dst := some 123, op := Go.Op.move (Go.Operand.tmp 0), type := 24, pos := "law.go:270", after := #[], guard := none }) (v := ?v0wa1) rfl (by kernel_rfl) (by kernel_rfl) (by kernel_rfl) (fun _ _ _ h => h) (Or.inl ⟨by rfl, ?y0wa1⟩) (by assumption) ?r0wa1
    case y0wa1 => (intro w hSw; obtain ⟨s0, s1, s2, s3, s4, s5, s6, s7, s8⟩ := hSw; go_simp; (try with_reducible rfl))
    (try simp only [Act.put]); (try simp only [List.setIfInBounds_toArray]); (try simp only [List.set_cons_succ]); (try simp only [List.set_cons_zero])
    refine wpAnyH_take (i := 1) (oi := { dst := some 124, op := Go.Op.load 93 (Go.Operand.tmp 5), type := 93, pos := "law.go:270", after := #[], guard := none }) (v := ?v1wa2) rfl (by kernel_rfl) (by kernel_rfl) (by kernel_rfl) (fun _ _ _ h => h) (Or.inl ⟨by rfl, ?y1wa2⟩) (by assumption) ?r1wa2
    case y1wa2 => (intro w hSw; obtain ⟨s0, s1, s2, s3, s4, s5, s6, s7, s8⟩ := hSw; go_simp; (try with_reducible rfl))
    (try simp only [Act.put]); (try simp only [List.setIfInBounds_toArray]); (try simp only [List.set_cons_succ]); (try simp only [List.set_cons_zero])
    refine wpAnyH_take (i := 2) (oi := { dst := some 125, op := Go.Op.fieldAddr 29 (Go.Operand.tmp 3) 1, type := 0, pos := "law.go:270", after := #[], guard := none }) (v := ?v2wa3) rfl (by kernel_rfl) (by kernel_rfl) (by kernel_rfl) (fun _ _ _ h => h) (Or.inl ⟨by rfl, ?y2wa3⟩) (by assumption) ?r2wa3
    case y2wa3 => (intro w hSw; obtain ⟨s0, s1, s2, s3, s4, s5, s6, s7, s8⟩ := hSw; go_simp; (try with_reducible rfl))
    (try simp only [Act.put]); (try simp only [List.setIfInBounds_toArray]); (try simp only [List.set_cons_succ]); (try simp only [List.set_cons_zero])
    refine wpAnyH_take (i := 3) (oi := { dst := some 126, op := Go.Op.load 3 (Go.Operand.tmp 125), type := 3, pos := "law.go:270", after := #[{ on := 2, ground := Go.Ground.data }], guard := none }) (v := ?v3wa4) rfl (by kernel_rfl) (by kernel_rfl) (by kernel_rfl) (fun _ _ _ h => h) (Or.inl ⟨by rfl, ?y3wa4⟩) (by assumption) ?r3wa4
    case y3wa4 => (intro w hSw; obtain ⟨s0, s1, s2, s3, s4, s5, s6, s7, s8⟩ := hSw; go_simp; (try with_reducible rfl))
    (try simp only [Act.put]); (try simp only [List.setIfInBounds_toArray]); (try simp only [List.set_cons_succ]); (try simp only [List.set_cons_zero])
    refine wpAnyH_take (i := 5) (oi := { dst := some 128, op := Go.Op.fieldAddr 29 (Go.Operand.tmp 3) 2, type := 0, pos := "law.go:270", after := #[], guard := none }) (v := ?v5wa5) rfl (by kernel_rfl) (by kernel_rfl) (by kernel_rfl) (fun _ _ _ h => h) (Or.inl ⟨by rfl, ?y5wa5⟩) (by assumption) ?r5wa5
    case y5wa5 => (intro w hSw; obtain ⟨s0, s1, s2, s3, s4, s5, s6, s7, s8⟩ := hSw; go_simp; (try with_reducible rfl))
    (try simp only [Act.put]); (try simp only [List.setIfInBounds_toArray]); (try simp only [List.set_cons_succ]); (try simp only [List.set_cons_zero])
    refine wpAnyH_take (i := 6) (oi := { dst := some 129, op := Go.Op.load 3 (Go.Operand.tmp 128), type := 3, pos := "law.go:270", after := #[{ on := 5, ground := Go.Ground.data }], guard := none }) (v := ?v6wa6) rfl (by kernel_rfl) (by kernel_rfl) (by kernel_rfl) (fun _ _ _ h => h) (Or.inl ⟨by rfl, ?y6wa6⟩) (by assumption) ?r6wa6
    case y6wa6 => (intro w hSw; obtain ⟨s0, s1, s2, s3, s4, s5, s6, s7, s8⟩ := hSw; go_simp; (try with_reducible rfl))
    (try simp only [Act.put]); (try simp only [List.setIfInBounds_toArray]); (try simp only [List.set_cons_succ]); (try simp only [List.set_cons_zero])
    refine wpAnyH_take (i := 7) (oi := { dst := some 130, op := Go.Op.fieldAddr 29 (Go.Operand.tmp 3) 3, type := 0, pos := "law.go:270", after := #[], guard := none }) (v := ?v7wa7) rfl (by kernel_rfl) (by kernel_rfl) (by kernel_rfl) (fun _ _ _ h => h) (Or.inl ⟨by rfl, ?y7wa7⟩) (by assumption) ?r7wa7
    case y7wa7 => (intro w hSw; obtain ⟨s0, s1, s2, s3, s4, s5, s6, s7, s8⟩ := hSw; go_simp; (try with_reducible rfl))
    (try simp only [Act.put]); (try simp only [List.setIfInBounds_toArray]); (try simp only [List.set_cons_succ]); (try simp only [List.set_cons_zero])
    refine wpAnyH_take (i := 8) (oi := { dst := some 131, op := Go.Op.load 3 (Go.Operand.tmp 130), type := 3, pos := "law.go:270", after := #[{ on := 7, ground := Go.Ground.data }], guard := none }) (v := ?v8wa8) rfl (by kernel_rfl) (by kernel_rfl) (by kernel_rfl) (fun _ _ _ h => h) (Or.inl ⟨by rfl, ?y8wa8⟩) (by assumption) ?r8wa8
    case y8wa8 => (intro w hSw; obtain ⟨s0, s1, s2, s3, s4, s5, s6, s7, s8⟩ := hSw; go_simp; (try with_reducible rfl))
    (try simp only [Act.put]); (try simp only [List.setIfInBounds_toArray]); (try simp only [List.set_cons_succ]); (try simp only [List.set_cons_zero])
    refine wpAnyH_ready (rs := [4]) (by kernel_rfl) (by simp) ?_
    refine AllReadyH.cons (o := { dst := some 127, op := Go.Op.call { callee := Go.Callee.value (Go.Operand.func 33), args := #[Go.Operand.tmp 126, Go.Operand.const (Go.Value.int Go.IntKind.i64 4)], argTypes := #[3, 3] }, type := 3, pos := "law.go:270", after := #[{ on := 3, ground := Go.Ground.data }], guard := none }) rfl (fun Kc hK => ?_) AllReadyH.nil
    go_simp
    go_at_call 33
    refine (pick_any o 4 _ ho0 ho1 (by omega) (by omega)).mono ?_
    rw [H4.out]
    rintro e w9 ⟨rfl, rfl⟩
    go_wp2_with fail
    refine hK.out _ _ HH.out (fun hHeld => ?_)
    clear hK Kc
    (try simp only [Act.put]); (try simp only [List.setIfInBounds_toArray]); (try simp only [List.set_cons_succ]); (try simp only [List.set_cons_zero])
    refine wpAnyH_ready (rs := [9]) (by kernel_rfl) (by simp) ?_
    refine AllReadyH.cons (o := { dst := some 132, op := Go.Op.call { callee := Go.Callee.value (Go.Operand.func 46), args := #[Go.Operand.tmp 123, Go.Operand.tmp 124, Go.Operand.tmp 127, Go.Operand.tmp 129, Go.Operand.tmp 131], argTypes := #[24, 93, 3, 3, 3] }, type := 4, pos := "law.go:270", after := #[{ on := 0, ground := Go.Ground.data }, { on := 1, ground := Go.Ground.data }, { on := 4, ground := Go.Ground.data }, { on := 6, ground := Go.Ground.data }, { on := 8, ground := Go.Ground.data }, { on := 4, ground := Go.Ground.chain }], guard := none }) rfl (fun Kc hK => ?_) AllReadyH.nil
    go_simp
    go_at_call 46
    refine (H.out _ HK.out.drew).mono ?_
    rintro e w9 ⟨rfl, hT9⟩
    obtain ⟨k1, k2, k3, k4⟩ := boxCells4 (HT.out _ _ B _ HK.out.drew hT9 (by rw [HBB.out]; exact Nat.le_refl _) HRb.out)
    obtain ⟨j0, j1, j2, j3, j4, j5⟩ := boxCells6 (HT.out _ _ X _ HK.out.drew hT9 HXw.out HSb.out)
    have HT9 := hidM hT9
    have HH9 : Hid (w9.cell? ⟨X, 0, none⟩ = some (.slice ao n cap) ∧ w9.cell? ⟨X, 1, none⟩ = some (.int .i64 place) ∧ w9.cell? ⟨X, 2, none⟩ = some (.pointer (q.map fun b => ⟨b, 0, none⟩)) ∧ w9.cell? ⟨X, 3, none⟩ = some (.slice ao' n' cap') ∧ w9.cell? ⟨X, 4, none⟩ = some (.int .i64 place') ∧ w9.cell? ⟨X, 5, none⟩ = some (.int .i64 who) ∧ w9.cell? ⟨B, 1, none⟩ = some (.int .i64 o) ∧ w9.cell? ⟨B, 2, none⟩ = some (.int .i64 a) ∧ w9.cell? ⟨B, 3, none⟩ = some (.int .i64 b)) := ⟨j0, j1, j2, j3, j4, j5, k2, k3, k4⟩
    clear hT9 k1 k2 k3 k4 j0 j1 j2 j3 j4 j5
    go_wp2_with fail
    refine hK.out _ _ HH9.out (fun hHeld => ?_)
    clear hK Kc
    (try simp only [Act.put]); (try simp only [List.setIfInBounds_toArray]); (try simp only [List.set_cons_succ]); (try simp only [List.set_cons_zero])
    refine wpAnyH_take (i := 10) (oi := { dst := some 4, op := Go.Op.assign (Go.Operand.tmp 132), type := 4, pos := "law.go:270", after := #[{ on := 9, ground := Go.Ground.data }, { on := 9, ground := Go.Ground.chain }, { on := 0, ground := Go.Ground.phase }, { on := 1, ground := Go.Ground.phase }, { on := 2, ground := Go.Ground.phase }, { on := 3, ground := Go.Ground.phase }, { on := 4, ground := Go.Ground.phase }, { on := 5, ground := Go.Ground.phase }, { on := 6, ground := Go.Ground.phase }, { on := 7, ground := Go.Ground.phase }, { on := 8, ground := Go.Ground.phase }, { on := 9, ground := Go.Ground.phase }], guard := none }) (v := ?v10wa9) rfl (by kernel_rfl) (by kernel_rfl) (by kernel_rfl) (fun _ _ _ h => h) (Or.inl ⟨by rfl, ?y10wa9⟩) (by assumption) ?r10wa9
    case y10wa9 => (intro w hSw; obtain ⟨s0, s1, s2, s3, s4, s5, s6, s7, s8⟩ := hSw; go_simp; (try with_reducible rfl))
    (try simp only [Act.put]); (try simp only [List.setIfInBounds_toArray]); (try simp only [List.set_cons_succ]); (try simp only [List.set_cons_zero])
    refine wpAnyH_done (by kernel_rfl) ?_ _
    clear hHeld
    go_wp2_with fail
    go_ret
    exact ⟨rfl, W'.drew, HK.out.drew, HT9.out⟩
  · clear c2 b1 z0 z1 z2 z3 z4 z5
    have KW := Keeps.none_alloc_drew' W (.cells #[.slice ao n cap, .int .i64 place, .pointer (q.map fun b => ⟨b, 0, none⟩), .slice ao' n' cap', .int .i64 place', .int .i64 who] 93)
    have hs : (W.alloc (.cells #[.slice ao n cap, .int .i64 place, .pointer (q.map fun b => ⟨b, 0, none⟩), .slice ao' n' cap', .int .i64 place', .int .i64 who] 93)).drew.heap[W.heap.size]? = some (.cells #[.slice ao n cap, .int .i64 place, .pointer (q.map fun b => ⟨b, 0, none⟩), .slice ao' n' cap', .int .i64 place', .int .i64 who] 93 (0, 0)) := heap_alloc_new W _
    have hr := KW.row HR.out id
    have hk : Keeps w (W.alloc (.cells #[.slice ao n cap, .int .i64 place, .pointer (q.map fun b => ⟨b, 0, none⟩), .slice ao' n' cap', .int .i64 place', .int .i64 who] 93)).drew (fun _ => False) := HK.out.trans KW fun _ _ e => e
    have HXw := hidM HK.out.size
    clear KW HR HK
    generalize (W.alloc (.cells #[.slice ao n cap, .int .i64 place, .pointer (q.map fun b => ⟨b, 0, none⟩), .slice ao' n' cap', .int .i64 place', .int .i64 who] 93)).drew = W' at *
    generalize W.heap.size = X at *
    obtain ⟨d0, d1, d2, d3⟩ := boxCells4 hr
    obtain ⟨e0, e1, e2, e3, e4, e5⟩ := boxCells6 hs
    have HK : Hid (Keeps w W' (fun _ => False)) := hk
    have HRb := hidM hr
    have HSb := hidM hs
    clear hr hs hk
    go_wp2_with fail
    have HH : Hid (W'.drew.cell? ⟨X, 0, none⟩ = some (.slice ao n cap) ∧ W'.drew.cell? ⟨X, 1, none⟩ = some (.int .i64 place) ∧ W'.drew.cell? ⟨X, 2, none⟩ = some (.pointer (q.map fun b => ⟨b, 0, none⟩)) ∧ W'.drew.cell? ⟨X, 3, none⟩ = some (.slice ao' n' cap') ∧ W'.drew.cell? ⟨X, 4, none⟩ = some (.int .i64 place') ∧ W'.drew.cell? ⟨X, 5, none⟩ = some (.int .i64 who) ∧ W'.drew.cell? ⟨B, 1, none⟩ = some (.int .i64 o) ∧ W'.drew.cell? ⟨B, 2, none⟩ = some (.int .i64 a) ∧ W'.drew.cell? ⟨B, 3, none⟩ = some (.int .i64 b)) := ⟨e0, e1, e2, e3, e4, e5, d1, d2, d3⟩
    refine wp_region_held_drew (S := fun w' => w'.cell? ⟨X, 0, none⟩ = some (.slice ao n cap) ∧ w'.cell? ⟨X, 1, none⟩ = some (.int .i64 place) ∧ w'.cell? ⟨X, 2, none⟩ = some (.pointer (q.map fun b => ⟨b, 0, none⟩)) ∧ w'.cell? ⟨X, 3, none⟩ = some (.slice ao' n' cap') ∧ w'.cell? ⟨X, 4, none⟩ = some (.int .i64 place') ∧ w'.cell? ⟨X, 5, none⟩ = some (.int .i64 who) ∧ w'.cell? ⟨B, 1, none⟩ = some (.int .i64 o) ∧ w'.cell? ⟨B, 2, none⟩ = some (.int .i64 a) ∧ w'.cell? ⟨B, 3, none⟩ = some (.int .i64 b)) (by kernel_rfl) HH.out (fun hHeld => ?_)
    refine wpAnyH_take (i := 0) (oi := { dst := some 123, op := Go.Op.move (Go.Operand.tmp 0), type := 24, pos := "law.go:270", after := #[], guard := none }) (v := ?v0wb1) rfl (by kernel_rfl) (by kernel_rfl) (by kernel_rfl) (fun _ _ _ h => h) (Or.inl ⟨by rfl, ?y0wb1⟩) (by assumption) ?r0wb1
    case y0wb1 => (intro w hSw; obtain ⟨s0, s1, s2, s3, s4, s5, s6, s7, s8⟩ := hSw; go_simp; (try with_reducible rfl))
    (try simp only [Act.put]); (try simp only [List.setIfInBounds_toArray]); (try simp only [List.set_cons_succ]); (try simp only [List.set_cons_zero])
    refine wpAnyH_take (i := 1) (oi := { dst := some 124, op := Go.Op.load 93 (Go.Operand.tmp 5), type := 93, pos := "law.go:270", after := #[], guard := none }) (v := ?v1wb2) rfl (by kernel_rfl) (by kernel_rfl) (by kernel_rfl) (fun _ _ _ h => h) (Or.inl ⟨by rfl, ?y1wb2⟩) (by assumption) ?r1wb2
    case y1wb2 => (intro w hSw; obtain ⟨s0, s1, s2, s3, s4, s5, s6, s7, s8⟩ := hSw; go_simp; (try with_reducible rfl))
    (try simp only [Act.put]); (try simp only [List.setIfInBounds_toArray]); (try simp only [List.set_cons_succ]); (try simp only [List.set_cons_zero])
    refine wpAnyH_take (i := 2) (oi := { dst := some 125, op := Go.Op.fieldAddr 29 (Go.Operand.tmp 3) 1, type := 0, pos := "law.go:270", after := #[], guard := none }) (v := ?v2wb3) rfl (by kernel_rfl) (by kernel_rfl) (by kernel_rfl) (fun _ _ _ h => h) (Or.inl ⟨by rfl, ?y2wb3⟩) (by assumption) ?r2wb3
    case y2wb3 => (intro w hSw; obtain ⟨s0, s1, s2, s3, s4, s5, s6, s7, s8⟩ := hSw; go_simp; (try with_reducible rfl))
    (try simp only [Act.put]); (try simp only [List.setIfInBounds_toArray]); (try simp only [List.set_cons_succ]); (try simp only [List.set_cons_zero])
    refine wpAnyH_take (i := 3) (oi := { dst := some 126, op := Go.Op.load 3 (Go.Operand.tmp 125), type := 3, pos := "law.go:270", after := #[{ on := 2, ground := Go.Ground.data }], guard := none }) (v := ?v3wb4) rfl (by kernel_rfl) (by kernel_rfl) (by kernel_rfl) (fun _ _ _ h => h) (Or.inl ⟨by rfl, ?y3wb4⟩) (by assumption) ?r3wb4
    case y3wb4 => (intro w hSw; obtain ⟨s0, s1, s2, s3, s4, s5, s6, s7, s8⟩ := hSw; go_simp; (try with_reducible rfl))
    (try simp only [Act.put]); (try simp only [List.setIfInBounds_toArray]); (try simp only [List.set_cons_succ]); (try simp only [List.set_cons_zero])
    refine wpAnyH_take (i := 5) (oi := { dst := some 128, op := Go.Op.fieldAddr 29 (Go.Operand.tmp 3) 2, type := 0, pos := "law.go:270", after := #[], guard := none }) (v := ?v5wb5) rfl (by kernel_rfl) (by kernel_rfl) (by kernel_rfl) (fun _ _ _ h => h) (Or.inl ⟨by rfl, ?y5wb5⟩) (by assumption) ?r5wb5
    case y5wb5 => (intro w hSw; obtain ⟨s0, s1, s2, s3, s4, s5, s6, s7, s8⟩ := hSw; go_simp; (try with_reducible rfl))
    (try simp only [Act.put]); (try simp only [List.setIfInBounds_toArray]); (try simp only [List.set_cons_succ]); (try simp only [List.set_cons_zero])
    refine wpAnyH_take (i := 6) (oi := { dst := some 129, op := Go.Op.load 3 (Go.Operand.tmp 128), type := 3, pos := "law.go:270", after := #[{ on := 5, ground := Go.Ground.data }], guard := none }) (v := ?v6wb6) rfl (by kernel_rfl) (by kernel_rfl) (by kernel_rfl) (fun _ _ _ h => h) (Or.inl ⟨by rfl, ?y6wb6⟩) (by assumption) ?r6wb6
    case y6wb6 => (intro w hSw; obtain ⟨s0, s1, s2, s3, s4, s5, s6, s7, s8⟩ := hSw; go_simp; (try with_reducible rfl))
    (try simp only [Act.put]); (try simp only [List.setIfInBounds_toArray]); (try simp only [List.set_cons_succ]); (try simp only [List.set_cons_zero])
    refine wpAnyH_take (i := 7) (oi := { dst := some 130, op := Go.Op.fieldAddr 29 (Go.Operand.tmp 3) 3, type := 0, pos := "law.go:270", after := #[], guard := none }) (v := ?v7wb7) rfl (by kernel_rfl) (by kernel_rfl) (by kernel_rfl) (fun _ _ _ h => h) (Or.inl ⟨by rfl, ?y7wb7⟩) (by assumption) ?r7wb7
    case y7wb7 => (intro w hSw; obtain ⟨s0, s1, s2, s3, s4, s5, s6, s7, s8⟩ := hSw; go_simp; (try with_reducible rfl))
    (try simp only [Act.put]); (try simp only [List.setIfInBounds_toArray]); (try simp only [List.set_cons_succ]); (try simp only [List.set_cons_zero])
    refine wpAnyH_take (i := 8) (oi := { dst := some 131, op := Go.Op.load 3 (Go.Operand.tmp 130), type := 3, pos := "law.go:270", after := #[{ on := 7, ground := Go.Ground.data }], guard := none }) (v := ?v8wb8) rfl (by kernel_rfl) (by kernel_rfl) (by kernel_rfl) (fun _ _ _ h => h) (Or.inl ⟨by rfl, ?y8wb8⟩) (by assumption) ?r8wb8
    case y8wb8 => (intro w hSw; obtain ⟨s0, s1, s2, s3, s4, s5, s6, s7, s8⟩ := hSw; go_simp; (try with_reducible rfl))
    (try simp only [Act.put]); (try simp only [List.setIfInBounds_toArray]); (try simp only [List.set_cons_succ]); (try simp only [List.set_cons_zero])
    refine wpAnyH_ready (rs := [4]) (by kernel_rfl) (by simp) ?_
    refine AllReadyH.cons (o := { dst := some 127, op := Go.Op.call { callee := Go.Callee.value (Go.Operand.func 33), args := #[Go.Operand.tmp 126, Go.Operand.const (Go.Value.int Go.IntKind.i64 4)], argTypes := #[3, 3] }, type := 3, pos := "law.go:270", after := #[{ on := 3, ground := Go.Ground.data }], guard := none }) rfl (fun Kc hK => ?_) AllReadyH.nil
    go_simp
    go_at_call 33
    refine (pick_any o 4 _ ho0 ho1 (by omega) (by omega)).mono ?_
    rw [H4.out]
    rintro e w9 ⟨rfl, rfl⟩
    go_wp2_with fail
    refine hK.out _ _ HH.out (fun hHeld => ?_)
    clear hK Kc
    (try simp only [Act.put]); (try simp only [List.setIfInBounds_toArray]); (try simp only [List.set_cons_succ]); (try simp only [List.set_cons_zero])
    refine wpAnyH_ready (rs := [9]) (by kernel_rfl) (by simp) ?_
    refine AllReadyH.cons (o := { dst := some 132, op := Go.Op.call { callee := Go.Callee.value (Go.Operand.func 46), args := #[Go.Operand.tmp 123, Go.Operand.tmp 124, Go.Operand.tmp 127, Go.Operand.tmp 129, Go.Operand.tmp 131], argTypes := #[24, 93, 3, 3, 3] }, type := 4, pos := "law.go:270", after := #[{ on := 0, ground := Go.Ground.data }, { on := 1, ground := Go.Ground.data }, { on := 4, ground := Go.Ground.data }, { on := 6, ground := Go.Ground.data }, { on := 8, ground := Go.Ground.data }, { on := 4, ground := Go.Ground.chain }], guard := none }) rfl (fun Kc hK => ?_) AllReadyH.nil
    go_simp
    go_at_call 46
    refine (H.out _ HK.out.drew).mono ?_
    rintro e w9 ⟨rfl, hT9⟩
    obtain ⟨k1, k2, k3, k4⟩ := boxCells4 (HT.out _ _ B _ HK.out.drew hT9 (by rw [HBB.out]; exact Nat.le_refl _) HRb.out)
    obtain ⟨j0, j1, j2, j3, j4, j5⟩ := boxCells6 (HT.out _ _ X _ HK.out.drew hT9 HXw.out HSb.out)
    have HT9 := hidM hT9
    have HH9 : Hid (w9.cell? ⟨X, 0, none⟩ = some (.slice ao n cap) ∧ w9.cell? ⟨X, 1, none⟩ = some (.int .i64 place) ∧ w9.cell? ⟨X, 2, none⟩ = some (.pointer (q.map fun b => ⟨b, 0, none⟩)) ∧ w9.cell? ⟨X, 3, none⟩ = some (.slice ao' n' cap') ∧ w9.cell? ⟨X, 4, none⟩ = some (.int .i64 place') ∧ w9.cell? ⟨X, 5, none⟩ = some (.int .i64 who) ∧ w9.cell? ⟨B, 1, none⟩ = some (.int .i64 o) ∧ w9.cell? ⟨B, 2, none⟩ = some (.int .i64 a) ∧ w9.cell? ⟨B, 3, none⟩ = some (.int .i64 b)) := ⟨j0, j1, j2, j3, j4, j5, k2, k3, k4⟩
    clear hT9 k1 k2 k3 k4 j0 j1 j2 j3 j4 j5
    go_wp2_with fail
    refine hK.out _ _ HH9.out (fun hHeld => ?_)
    clear hK Kc
    (try simp only [Act.put]); (try simp only [List.setIfInBounds_toArray]); (try simp only [List.set_cons_succ]); (try simp only [List.set_cons_zero])
    refine wpAnyH_take (i := 10) (oi := { dst := some 4, op := Go.Op.assign (Go.Operand.tmp 132), type := 4, pos := "law.go:270", after := #[{ on := 9, ground := Go.Ground.data }, { on := 9, ground := Go.Ground.chain }, { on := 0, ground := Go.Ground.phase }, { on := 1, ground := Go.Ground.phase }, { on := 2, ground := Go.Ground.phase }, { on := 3, ground := Go.Ground.phase }, { on := 4, ground := Go.Ground.phase }, { on := 5, ground := Go.Ground.phase }, { on := 6, ground := Go.Ground.phase }, { on := 7, ground := Go.Ground.phase }, { on := 8, ground := Go.Ground.phase }, { on := 9, ground := Go.Ground.phase }], guard := none }) (v := ?v10wb9) rfl (by kernel_rfl) (by kernel_rfl) (by kernel_rfl) (fun _ _ _ h => h) (Or.inl ⟨by rfl, ?y10wb9⟩) (by assumption) ?r10wb9
    case y10wb9 => (intro w hSw; obtain ⟨s0, s1, s2, s3, s4, s5, s6, s7, s8⟩ := hSw; go_simp; (try with_reducible rfl))
    (try simp only [Act.put]); (try simp only [List.setIfInBounds_toArray]); (try simp only [List.set_cons_succ]); (try simp only [List.set_cons_zero])
    refine wpAnyH_done (by kernel_rfl) ?_ _
    clear hHeld
    go_wp2_with fail
    go_ret
    exact ⟨rfl, W'.drew, HK.out.drew, HT9.out⟩
end Go.Proofs.Ytomlndoffoeaiaa.Kit
