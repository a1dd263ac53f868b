import Derived.Test.YtomlndoffoeaiaaReadsR
import Derived.Test.YtomlndoffoeaiaaReadsX
namespace Go.Proofs.Ytomlndoffoeaiaa.Kit
open Go.RowKit Go.Deep
set_option linter.unusedVariables false

theorem src6 (w : World) (x0 x1 x2 y0 y1 z : Value) (hone : ∀ v ∈ [x0, x1, x2, y0, y1, z], v.oneCell' = true) : Src Try.prog 6 78 (.slice (some ⟨w.heap.size, 0, none⟩) 1 1) 1 [x0, x1, x2, y0, y1, z] (w.alloc (.cells #[x0, x1, x2, y0, y1, z] 93)) := by
  refine Src.ofSlice _ Try.underlying78 _ _ _ _ rfl ?_ (by simpa using hone)
  intro j v hj
  match j, hj with
  | 0, hj => simp at hj; subst hj; simp [Addr.add]
  | 1, hj => simp at hj; subst hj; simp [Addr.add]
  | 2, hj => simp at hj; subst hj; simp [Addr.add]
  | 3, hj => simp at hj; subst hj; simp [Addr.add]
  | 4, hj => simp at hj; subst hj; simp [Addr.add]
  | 5, hj => simp at hj; subst hj; simp [Addr.add]
set_option maxRecDepth 100000 in
set_option maxHeartbeats 8000000 in
theorem step_watch_p (m bl nl cl i : Nat) (o a b : Int) (ao : Option Addr) (n cap : Nat) (place : Int) (q : Option Nat) (ao' : Option Addr) (n' cap' : Nat) (place' who : Int) (wh : Nat) (q2 : Option Nat) (cs : Array Value) (xs : List Value) (w : World) (ho0 : -9223372036854775808 ≤ o) (ho1 : o ≤ 9223372036854775807) (hl0 : 0 < nl) (hl1 : nl ≤ 40) (hi : pickV o nl = i)
    (h2 : w.cell? ⟨m, 2, none⟩ = some (.slice (some ⟨bl, 0, none⟩) nl cl)) (hx : SeenAt w bl i (.slice ao n cap) (.int .i64 place) (.pointer (q.map fun b => ⟨b, 0, none⟩)) (.slice ao' n' cap') (.int .i64 place') (.int .i64 who))
    (ha : 0 ≤ a) (ha1 : a ≤ 9223372036854775807) (hwh : 1 + pickV a 2 = (wh : Int)) (hwl : wh ≤ 2) (hrow : w.heap[m]? = some (.cells cs 87 (0, 0))) (hc2 : cs[2]? = some (.slice (some ⟨bl, 0, none⟩) nl cl)) (hcw : cs[3 + wh]? = some (.pointer (q2.map fun b => ⟨b, 0, none⟩))) (hown : w.ownsRow 0 93 6 (.slice (some ⟨bl, 0, none⟩) nl cl) nl xs) (hroom : nl < 40) :
    Calls Try.prog 9 #[.pointer (some ⟨m, 0, none⟩), opV 8 o a b] w fun e w' => e = .returned (.bool true) ∧ RowDone w w' m 2 93 6 cs (.slice (some ⟨bl, 0, none⟩) nl cl) (nl + 1) (xs ++ [.slice ao n cap, .int .i64 place, .pointer (q2.map fun b => ⟨b, 0, none⟩), .slice ao' n' cap', .int .i64 place', .int .i64 (wh : Int)]) := by
  have HM := hidM (And.intro hrow (And.intro hc2 hcw))
  have HO := hidM hown
  clear hrow hc2 hcw hown
  unfold opV
  go_enter Try.func9, Try.ntmps9
  go_wp2
  obtain ⟨W, hW⟩ : ∃ W, W = w.alloc (.cells #[.int .i64 8, .int .i64 o, .int .i64 a, .int .i64 b] 29) := ⟨_, rfl⟩
  obtain ⟨B, hB⟩ : ∃ B, B = w.heap.size := ⟨_, rfl⟩
  rw [← hW, ← hB]
  have hrow : W.heap[B]? = some (.cells #[.int .i64 8, .int .i64 o, .int .i64 a, .int .i64 b] 29 (0, 0)) := by rw [hW, hB]; exact heap_alloc_new w _
  have HK : Hid (Keeps w W (fun _ => False)) := by rw [hW]; exact (Keeps.refl _ _).alloc _
  have HBB := hidM hB
  have HR : Hid (W.heap[B]? = some (.cells #[.int .i64 8, .int .i64 o, .int .i64 a, .int .i64 b] 29 (0, 0))) := hrow
  have b1 : W.cell? ⟨B, 1, none⟩ = some (.int .i64 o) := by rw [cell_of_row _ _ 1 _ _ _ hrow]; rfl
  have c2 := HK.out.cell' h2 id
  obtain ⟨y0, y1, y2, y3, y4, y5⟩ := hx
  have z0 := HK.out.cell' y0 id
  have z1 := HK.out.cell' y1 id
  have z2 := HK.out.cell' y2 id
  have z3 := HK.out.cell' y3 id
  have z4 := HK.out.cell' y4 id
  have z5 := HK.out.cell' y5 id
  have hil : i < nl := by have := pickV_bd o nl (by omega); omega
  have HI : Hid (pickV o nl = i) := hi
  clear hW hB hrow h2 y0 y1 y2 y3 y4 y5 hi
  go_region_held3 (fun w' => w'.cell? ⟨m, 2, none⟩ = some (.slice (some ⟨bl, 0, none⟩) nl cl) ∧ w'.cell? ⟨B, 1, none⟩ = some (.int .i64 o) ∧ w'.cell? ⟨bl, i * 6, none⟩ = some (.slice ao n cap) ∧ w'.cell? ⟨bl, i * 6 + 1, none⟩ = some (.int .i64 place) ∧ w'.cell? ⟨bl, i * 6 + 2, none⟩ = some (.pointer (q.map fun b => ⟨b, 0, none⟩)) ∧ w'.cell? ⟨bl, i * 6 + 3, none⟩ = some (.slice ao' n' cap') ∧ w'.cell? ⟨bl, i * 6 + 4, none⟩ = some (.int .i64 place') ∧ w'.cell? ⟨bl, i * 6 + 5, none⟩ = some (.int .i64 who)) (go_keep) ((go_at_call 33; refine (pick_any o nl _ ho0 ho1 (by omega) (by omega)).mono ?_; rw [HI.out]; rintro e w9 ⟨rfl, rfl⟩))
  · clear c2 b1 z0 z1 z2 z3 z4 z5
    have KW := Keeps.none_alloc_drew' W (.cells #[.slice ao n cap, .int .i64 place, .pointer (q.map fun b => ⟨b, 0, none⟩), .slice ao' n' cap', .int .i64 place', .int .i64 who] 93)
    have hs : (W.alloc (.cells #[.slice ao n cap, .int .i64 place, .pointer (q.map fun b => ⟨b, 0, none⟩), .slice ao' n' cap', .int .i64 place', .int .i64 who] 93)).drew.heap[W.heap.size]? = some (.cells #[.slice ao n cap, .int .i64 place, .pointer (q.map fun b => ⟨b, 0, none⟩), .slice ao' n' cap', .int .i64 place', .int .i64 who] 93 (0, 0)) := heap_alloc_new W _
    have hr := KW.row HR.out id
    have hk : Keeps w (W.alloc (.cells #[.slice ao n cap, .int .i64 place, .pointer (q.map fun b => ⟨b, 0, none⟩), .slice ao' n' cap', .int .i64 place', .int .i64 who] 93)).drew (fun _ => False) := HK.out.trans KW fun _ _ e => e
    have HXw := hidM HK.out.size
    clear KW HR HK
    generalize (W.alloc (.cells #[.slice ao n cap, .int .i64 place, .pointer (q.map fun b => ⟨b, 0, none⟩), .slice ao' n' cap', .int .i64 place', .int .i64 who] 93)).drew = W' at *
    generalize W.heap.size = X at *
    obtain ⟨d0, d1, d2, d3⟩ := boxCells4 hr
    obtain ⟨e0, e1, e2, e3, e4, e5⟩ := boxCells6 hs
    have HK : Hid (Keeps w W' (fun _ => False)) := hk
    have HSb := hidM hs
    clear hr hs hk
    have c2 : W'.cell? ⟨m, 2, none⟩ = some (.slice (some ⟨bl, 0, none⟩) nl cl) := by rw [cell_of_row _ m 2 _ _ _ (HK.out.row HM.out.1 id)]; exact HM.out.2.1
    have cw : W'.cell? ⟨m, 3 + wh, none⟩ = some (.pointer (q2.map fun b => ⟨b, 0, none⟩)) := by rw [cell_of_row _ m (3 + wh) _ _ _ (HK.out.row HM.out.1 id)]; exact HM.out.2.2
    have hnlI : (nl : Int) < 40 := by omega
    have hml : m < w.heap.size := (Array.getElem?_eq_some_iff.1 HM.out.1).1
    have HXm : Hid (X ≠ m) := fun e => by have := HXw.out; omega
    have HXl : Hid (X ≠ bl) := fun e => by have := HXw.out; have := own_lt HO.out bl rfl; omega
    have HBl : Hid (bl ≠ m) := fun e => ownN_ne (by decide) HM.out.1 HO.out (by rw [e]; rfl)
    go_wp2_with fail
    go_at_call 33
    refine (pick_any a 2 _ (by omega) ha1 (by omega) (by omega)).mono ?_
    rintro e w8 ⟨rfl, rfl⟩
    have hww : IntKind.i64.wrap (1 + pickV a 2) = (wh : Int) := by rw [IntKind.wrap_i64, hwh]; omega
    have hwh3 : (wh : Int) < 3 := by omega
    have hwh0 : wh < 3 := by omega
    go_wp2_with fail
    have HH : Hid (W'.drew.cell? ⟨X, 0, none⟩ = some (.slice ao n cap) ∧ W'.drew.cell? ⟨X, 1, none⟩ = some (.int .i64 place) ∧ W'.drew.cell? ⟨X, 2, none⟩ = some (.pointer (q.map fun b => ⟨b, 0, none⟩)) ∧ W'.drew.cell? ⟨X, 3, none⟩ = some (.slice ao' n' cap') ∧ W'.drew.cell? ⟨X, 4, none⟩ = some (.int .i64 place') ∧ W'.drew.cell? ⟨X, 5, none⟩ = some (.int .i64 who) ∧ W'.drew.cell? ⟨m, 3 + wh, none⟩ = some (.pointer (q2.map fun b => ⟨b, 0, none⟩))) := ⟨e0, e1, e2, e3, e4, e5, cw⟩
    refine wp_region_held_drew (S := fun w' => w'.cell? ⟨X, 0, none⟩ = some (.slice ao n cap) ∧ w'.cell? ⟨X, 1, none⟩ = some (.int .i64 place) ∧ w'.cell? ⟨X, 2, none⟩ = some (.pointer (q.map fun b => ⟨b, 0, none⟩)) ∧ w'.cell? ⟨X, 3, none⟩ = some (.slice ao' n' cap') ∧ w'.cell? ⟨X, 4, none⟩ = some (.int .i64 place') ∧ w'.cell? ⟨X, 5, none⟩ = some (.int .i64 who) ∧ w'.cell? ⟨m, 3 + wh, none⟩ = some (.pointer (q2.map fun b => ⟨b, 0, none⟩))) (by kernel_rfl) HH.out (fun hHeld => ?_)
    refine wpAnyH_take (i := 0) (oi := { dst := some 148, op := Go.Op.move (Go.Operand.tmp 0), type := 24, pos := "law.go:277", after := #[], guard := none }) (v := ?v0wa1) rfl (by kernel_rfl) (by kernel_rfl) (by kernel_rfl) (fun _ _ _ h => h) (Or.inl ⟨by rfl, ?y0wa1⟩) (by assumption) ?r0wa1
    case y0wa1 => (intro w hSw; obtain ⟨s0, s1, s2, s3, s4, s5, s6⟩ := hSw; go_simp; (try with_reducible rfl))
    (try simp only [Act.put]); (try simp only [List.setIfInBounds_toArray]); (try simp only [List.set_cons_succ]); (try simp only [List.set_cons_zero])
    refine wpAnyH_take (i := 1) (oi := { dst := some 149, op := Go.Op.move (Go.Operand.tmp 0), type := 24, pos := "law.go:277", after := #[], guard := none }) (v := ?v1wa2) rfl (by kernel_rfl) (by kernel_rfl) (by kernel_rfl) (fun _ _ _ h => h) (Or.inl ⟨by rfl, ?y1wa2⟩) (by assumption) ?r1wa2
    case y1wa2 => (intro w hSw; obtain ⟨s0, s1, s2, s3, s4, s5, s6⟩ := hSw; go_simp; (try with_reducible rfl))
    (try simp only [Act.put]); (try simp only [List.setIfInBounds_toArray]); (try simp only [List.set_cons_succ]); (try simp only [List.set_cons_zero])
    refine wpAnyH_take (i := 2) (oi := { dst := some 150, op := Go.Op.nilCheck (Go.Operand.tmp 149), type := 0, pos := "law.go:277", after := #[{ on := 1, ground := Go.Ground.data }], guard := none }) (v := ?v2wa3) rfl (by kernel_rfl) (by kernel_rfl) (by kernel_rfl) (fun _ _ _ h => h) (Or.inl ⟨by rfl, ?y2wa3⟩) (by assumption) ?r2wa3
    case y2wa3 => (intro w hSw; obtain ⟨s0, s1, s2, s3, s4, s5, s6⟩ := hSw; go_simp; (try with_reducible rfl))
    (try simp only [Act.put]); (try simp only [List.setIfInBounds_toArray]); (try simp only [List.set_cons_succ]); (try simp only [List.set_cons_zero])
    refine wpAnyH_take (i := 3) (oi := { dst := some 151, op := Go.Op.fieldAddr 87 (Go.Operand.tmp 150) 2, type := 0, pos := "law.go:277", after := #[{ on := 2, ground := Go.Ground.data }], guard := none }) (v := ?v3wa4) rfl (by kernel_rfl) (by kernel_rfl) (by kernel_rfl) (fun _ _ _ h => h) (Or.inl ⟨by rfl, ?y3wa4⟩) (by assumption) ?r3wa4
    case y3wa4 => (intro w hSw; obtain ⟨s0, s1, s2, s3, s4, s5, s6⟩ := hSw; go_simp; (try with_reducible rfl))
    (try simp only [Act.put]); (try simp only [List.setIfInBounds_toArray]); (try simp only [List.set_cons_succ]); (try simp only [List.set_cons_zero])
    refine wpAnyH_take (i := 5) (oi := { dst := some 153, op := Go.Op.fieldAddr 93 (Go.Operand.tmp 5) 0, type := 0, pos := "law.go:277", after := #[], guard := none }) (v := ?v5wa5) rfl (by kernel_rfl) (by kernel_rfl) (by kernel_rfl) (fun _ _ _ h => h) (Or.inl ⟨by rfl, ?y5wa5⟩) (by assumption) ?r5wa5
    case y5wa5 => (intro w hSw; obtain ⟨s0, s1, s2, s3, s4, s5, s6⟩ := hSw; go_simp; (try with_reducible rfl))
    (try simp only [Act.put]); (try simp only [List.setIfInBounds_toArray]); (try simp only [List.set_cons_succ]); (try simp only [List.set_cons_zero])
    refine wpAnyH_take (i := 6) (oi := { dst := some 154, op := Go.Op.load 37 (Go.Operand.tmp 153), type := 37, pos := "law.go:277", after := #[{ on := 5, ground := Go.Ground.data }], guard := none }) (v := ?v6wa6) rfl (by kernel_rfl) (by kernel_rfl) (by kernel_rfl) (fun _ _ _ h => h) (Or.inl ⟨by rfl, ?y6wa6⟩) (by assumption) ?r6wa6
    case y6wa6 => (intro w hSw; obtain ⟨s0, s1, s2, s3, s4, s5, s6⟩ := hSw; go_simp; (try with_reducible rfl))
    (try simp only [Act.put]); (try simp only [List.setIfInBounds_toArray]); (try simp only [List.set_cons_succ]); (try simp only [List.set_cons_zero])
    refine wpAnyH_take (i := 7) (oi := { dst := some 155, op := Go.Op.move (Go.Operand.tmp 0), type := 24, pos := "law.go:277", after := #[], guard := none }) (v := ?v7wa7) rfl (by kernel_rfl) (by kernel_rfl) (by kernel_rfl) (fun _ _ _ h => h) (Or.inl ⟨by rfl, ?y7wa7⟩) (by assumption) ?r7wa7
    case y7wa7 => (intro w hSw; obtain ⟨s0, s1, s2, s3, s4, s5, s6⟩ := hSw; go_simp; (try with_reducible rfl))
    (try simp only [Act.put]); (try simp only [List.setIfInBounds_toArray]); (try simp only [List.set_cons_succ]); (try simp only [List.set_cons_zero])
    refine wpAnyH_take (i := 8) (oi := { dst := some 156, op := Go.Op.move (Go.Operand.tmp 14), type := 3, pos := "law.go:277", after := #[], guard := none }) (v := ?v8wa8) rfl (by kernel_rfl) (by kernel_rfl) (by kernel_rfl) (fun _ _ _ h => h) (Or.inl ⟨by rfl, ?y8wa8⟩) (by assumption) ?r8wa8
    case y8wa8 => (intro w hSw; obtain ⟨s0, s1, s2, s3, s4, s5, s6⟩ := hSw; go_simp; (try with_reducible rfl))
    (try simp only [Act.put]); (try simp only [List.setIfInBounds_toArray]); (try simp only [List.set_cons_succ]); (try simp only [List.set_cons_zero])
    refine wpAnyH_take (i := 9) (oi := { dst := some 157, op := Go.Op.nilCheck (Go.Operand.tmp 155), type := 0, pos := "law.go:277", after := #[{ on := 7, ground := Go.Ground.data }], guard := none }) (v := ?v9wa9) rfl (by kernel_rfl) (by kernel_rfl) (by kernel_rfl) (fun _ _ _ h => h) (Or.inl ⟨by rfl, ?y9wa9⟩) (by assumption) ?r9wa9
    case y9wa9 => (intro w hSw; obtain ⟨s0, s1, s2, s3, s4, s5, s6⟩ := hSw; go_simp; (try with_reducible rfl))
    (try simp only [Act.put]); (try simp only [List.setIfInBounds_toArray]); (try simp only [List.set_cons_succ]); (try simp only [List.set_cons_zero])
    refine wpAnyH_take (i := 10) (oi := { dst := some 158, op := Go.Op.fieldAddr 87 (Go.Operand.tmp 157) 3, type := 0, pos := "law.go:277", after := #[{ on := 9, ground := Go.Ground.data }], guard := none }) (v := ?v10wa10) rfl (by kernel_rfl) (by kernel_rfl) (by kernel_rfl) (fun _ _ _ h => h) (Or.inl ⟨by rfl, ?y10wa10⟩) (by assumption) ?r10wa10
    case y10wa10 => (intro w hSw; obtain ⟨s0, s1, s2, s3, s4, s5, s6⟩ := hSw; go_simp; (try with_reducible rfl))
    (try simp only [Act.put]); (try simp only [List.setIfInBounds_toArray]); (try simp only [List.set_cons_succ]); (try simp only [List.set_cons_zero])
    refine wpAnyH_take (i := 11) (oi := { dst := some 159, op := Go.Op.indexAddr 79 (Go.Operand.tmp 158) (Go.Operand.tmp 156), type := 0, pos := "law.go:277", after := #[{ on := 10, ground := Go.Ground.data }, { on := 8, ground := Go.Ground.data }], guard := none }) (v := ?v11wa11) rfl (by kernel_rfl) (by kernel_rfl) (by kernel_rfl) (fun _ _ _ h => h) (Or.inl ⟨by rfl, ?y11wa11⟩) (by assumption) ?r11wa11
    case y11wa11 => (intro w hSw; obtain ⟨s0, s1, s2, s3, s4, s5, s6⟩ := hSw; go_simp; (try with_reducible rfl))
    (try simp only [Act.put]); (try simp only [List.setIfInBounds_toArray]); (try simp only [List.set_cons_succ]); (try simp only [List.set_cons_zero])
    refine wpAnyH_take (i := 12) (oi := { dst := some 160, op := Go.Op.load 34 (Go.Operand.tmp 159), type := 34, pos := "law.go:277", after := #[{ on := 11, ground := Go.Ground.data }], guard := none }) (v := ?v12wa12) rfl (by kernel_rfl) (by kernel_rfl) (by kernel_rfl) (fun _ _ _ h => h) (Or.inl ⟨by rfl, ?y12wa12⟩) (by assumption) ?r12wa12
    case y12wa12 => (intro w hSw; obtain ⟨s0, s1, s2, s3, s4, s5, s6⟩ := hSw; go_simp; (try with_reducible rfl))
    (try simp only [Act.put]); (try simp only [List.setIfInBounds_toArray]); (try simp only [List.set_cons_succ]); (try simp only [List.set_cons_zero])
    refine wpAnyH_take (i := 14) (oi := { dst := some 162, op := Go.Op.fieldAddr 93 (Go.Operand.tmp 5) 1, type := 0, pos := "law.go:277", after := #[], guard := none }) (v := ?v14wa13) rfl (by kernel_rfl) (by kernel_rfl) (by kernel_rfl) (fun _ _ _ h => h) (Or.inl ⟨by rfl, ?y14wa13⟩) (by assumption) ?r14wa13
    case y14wa13 => (intro w hSw; obtain ⟨s0, s1, s2, s3, s4, s5, s6⟩ := hSw; go_simp; (try with_reducible rfl))
    (try simp only [Act.put]); (try simp only [List.setIfInBounds_toArray]); (try simp only [List.set_cons_succ]); (try simp only [List.set_cons_zero])
    refine wpAnyH_take (i := 15) (oi := { dst := some 163, op := Go.Op.load 91 (Go.Operand.tmp 162), type := 91, pos := "law.go:277", after := #[{ on := 14, ground := Go.Ground.data }], guard := none }) (v := ?v15wa14) rfl (by kernel_rfl) (by kernel_rfl) (by kernel_rfl) (fun _ _ _ h => h) (Or.inl ⟨by rfl, ?y15wa14⟩) (by assumption) ?r15wa14
    case y15wa14 => (intro w hSw; obtain ⟨s0, s1, s2, s3, s4, s5, s6⟩ := hSw; go_simp; (try with_reducible rfl))
    (try simp only [Act.put]); (try simp only [List.setIfInBounds_toArray]); (try simp only [List.set_cons_succ]); (try simp only [List.set_cons_zero])
    refine wpAnyH_take (i := 16) (oi := { dst := some 164, op := Go.Op.move (Go.Operand.tmp 14), type := 3, pos := "law.go:277", after := #[], guard := none }) (v := ?v16wa15) rfl (by kernel_rfl) (by kernel_rfl) (by kernel_rfl) (fun _ _ _ h => h) (Or.inl ⟨by rfl, ?y16wa15⟩) (by assumption) ?r16wa15
    case y16wa15 => (intro w hSw; obtain ⟨s0, s1, s2, s3, s4, s5, s6⟩ := hSw; go_simp; (try with_reducible rfl))
    (try simp only [Act.put]); (try simp only [List.setIfInBounds_toArray]); (try simp only [List.set_cons_succ]); (try simp only [List.set_cons_zero])
    refine wpAnyH_ready (rs := [4, 13]) (by kernel_rfl) (by simp) ?_
    refine AllReadyH.cons (o := { dst := some 152, op := Go.Op.load 78 (Go.Operand.tmp 151), type := 78, pos := "law.go:277", after := #[{ on := 3, ground := Go.Ground.data }], guard := none }) rfl (fun Kc hK => ?_) (AllReadyH.cons (o := { dst := some 161, op := Go.Op.call { callee := Go.Callee.value (Go.Operand.func 15), args := #[Go.Operand.tmp 154, Go.Operand.tmp 160], argTypes := #[37, 34] }, type := 37, pos := "law.go:277", after := #[{ on := 6, ground := Go.Ground.data }, { on := 12, ground := Go.Ground.data }], guard := none }) rfl (fun Kc hK => ?_) AllReadyH.nil)
    · go_simp
      refine hK.out _ _ HH.out (fun hHeld => ?_)
      clear hK Kc
      (try simp only [Act.put]); (try simp only [List.setIfInBounds_toArray]); (try simp only [List.set_cons_succ]); (try simp only [List.set_cons_zero])
      refine wpAnyH_ready (rs := [13]) (by kernel_rfl) (by simp) ?_
      refine AllReadyH.cons (o := { dst := some 161, op := Go.Op.call { callee := Go.Callee.value (Go.Operand.func 15), args := #[Go.Operand.tmp 154, Go.Operand.tmp 160], argTypes := #[37, 34] }, type := 37, pos := "law.go:277", after := #[{ on := 6, ground := Go.Ground.data }, { on := 12, ground := Go.Ground.data }], guard := none }) rfl (fun Kc hK => ?_) AllReadyH.nil
      go_simp
      go_at_call 15
      refine Calls.mono (watched_any ao n cap place q q2 _) ?_
      rintro e w9 ⟨rfl, hk9⟩
      have HK9 : Hid (Keeps w w9 (fun _ => False)) := HK.out.drew.trans hk9 fun _ _ e => e
      have HH9 : Hid (w9.cell? ⟨X, 0, none⟩ = some (.slice ao n cap) ∧ w9.cell? ⟨X, 1, none⟩ = some (.int .i64 place) ∧ w9.cell? ⟨X, 2, none⟩ = some (.pointer (q.map fun b => ⟨b, 0, none⟩)) ∧ w9.cell? ⟨X, 3, none⟩ = some (.slice ao' n' cap') ∧ w9.cell? ⟨X, 4, none⟩ = some (.int .i64 place') ∧ w9.cell? ⟨X, 5, none⟩ = some (.int .i64 who) ∧ w9.cell? ⟨m, 3 + wh, none⟩ = some (.pointer (q2.map fun b => ⟨b, 0, none⟩))) := ⟨hk9.cell' e0 id, hk9.cell' e1 id, hk9.cell' e2 id, hk9.cell' e3 id, hk9.cell' e4 id, hk9.cell' e5 id, hk9.cell' cw id⟩
      have c29 : w9.cell? ⟨m, 2, none⟩ = some (.slice (some ⟨bl, 0, none⟩) nl cl) := hk9.cell' c2 id
      obtain ⟨V6, hV6⟩ : ∃ V6, w9.alloc (.cells #[.slice ao n cap, .int .i64 place, .pointer (q2.map fun b => ⟨b, 0, none⟩), .slice ao' n' cap', .int .i64 place', .int .i64 (wh : Int)] 93) = V6 := ⟨_, rfl⟩
      have hk6 : Keeps w9 V6 (fun _ => False) := by rw [← hV6]; exact (Keeps.refl _ _).alloc _
      have HK6 : Hid (Keeps w V6 (fun _ => False)) := HK9.out.trans hk6 fun _ _ e => e
      have HH6 : Hid (V6.cell? ⟨X, 0, none⟩ = some (.slice ao n cap) ∧ V6.cell? ⟨X, 1, none⟩ = some (.int .i64 place) ∧ V6.cell? ⟨X, 2, none⟩ = some (.pointer (q.map fun b => ⟨b, 0, none⟩)) ∧ V6.cell? ⟨X, 3, none⟩ = some (.slice ao' n' cap') ∧ V6.cell? ⟨X, 4, none⟩ = some (.int .i64 place') ∧ V6.cell? ⟨X, 5, none⟩ = some (.int .i64 who) ∧ V6.cell? ⟨m, 3 + wh, none⟩ = some (.pointer (q2.map fun b => ⟨b, 0, none⟩))) := ⟨hk6.cell' HH9.out.1 id, hk6.cell' HH9.out.2.1 id, hk6.cell' HH9.out.2.2.1 id, hk6.cell' HH9.out.2.2.2.1 id, hk6.cell' HH9.out.2.2.2.2.1 id, hk6.cell' HH9.out.2.2.2.2.2.1 id, hk6.cell' HH9.out.2.2.2.2.2.2 id⟩
      have c26 : V6.cell? ⟨m, 2, none⟩ = some (.slice (some ⟨bl, 0, none⟩) nl cl) := hk6.cell' c29 id
      have HOv : Hid (V6.ownsRow 0 93 6 (.slice (some ⟨bl, 0, none⟩) nl cl) nl xs) := ownN_kept HO.out HK6.out fun _ _ => id
      have HSv : Hid (Src Try.prog 6 78 (.slice (some ⟨w9.heap.size, 0, none⟩) 1 1) 1 [.slice ao n cap, .int .i64 place, .pointer (q2.map fun b => ⟨b, 0, none⟩), .slice ao' n' cap', .int .i64 place', .int .i64 (wh : Int)] V6) := by rw [← hV6]; exact src6 w9 _ _ _ _ _ _ (by simp [Value.oneCell'])
      have HGr : Hid (∀ (w7 : World) (uo : Option Addr) (uc : Nat), w7.ownsRow 0 93 6 (.slice uo (nl + 1) uc) (nl + 1) (xs ++ [.slice ao n cap, .int .i64 place, .pointer (q2.map fun b => ⟨b, 0, none⟩), .slice ao' n' cap', .int .i64 place', .int .i64 (wh : Int)]) → V6.grownBy w7 (Value.slice (some ⟨bl, 0, none⟩) nl cl).ownBlock → ((Value.slice uo (nl + 1) uc).ownBlock = (Value.slice (some ⟨bl, 0, none⟩) nl cl).ownBlock ∨ ∀ g', (Value.slice uo (nl + 1) uc).ownBlock = some g' → V6.heap.size ≤ g') → w7.cell? ⟨m, 2, none⟩ = some (.slice (some ⟨bl, 0, none⟩) nl cl) ∧ w7.frozen? ⟨m, 2, none⟩ = false ∧ RowDone w (w7.setCell ⟨m, 2, none⟩ (.slice uo (nl + 1) uc)) m 2 93 6 cs (.slice (some ⟨bl, 0, none⟩) nl cl) (nl + 1) (xs ++ [.slice ao n cap, .int .i64 place, .pointer (q2.map fun b => ⟨b, 0, none⟩), .slice ao' n' cap', .int .i64 place', .int .i64 (wh : Int)])) := fun w7 uo uc a1 a2 a3 => RowDone.grown (off := 2) (by decide) HK6.out HM.out.1 HM.out.2.1 (fun g' e e2 => absurd (e2 ▸ e) (ownN_ne (by decide) HM.out.1 HO.out)) a1 a2 a3
      have hX6 : ∀ w7 : World, V6.grownBy w7 (Value.slice (some ⟨bl, 0, none⟩) nl cl).ownBlock → ∀ j v, V6.cell? ⟨X, j, none⟩ = some v → w7.cell? ⟨X, j, none⟩ = some v := fun w7 hg j v h => (Keeps.ofGrown hg).cell' h fun e => HXl.out (by simp [Value.ownBlock] at e; exact e.symm)
      have HHg : Hid (∀ w7 : World, V6.grownBy w7 (Value.slice (some ⟨bl, 0, none⟩) nl cl).ownBlock → w7.cell? ⟨X, 0, none⟩ = some (.slice ao n cap) ∧ w7.cell? ⟨X, 1, none⟩ = some (.int .i64 place) ∧ w7.cell? ⟨X, 2, none⟩ = some (.pointer (q.map fun b => ⟨b, 0, none⟩)) ∧ w7.cell? ⟨X, 3, none⟩ = some (.slice ao' n' cap') ∧ w7.cell? ⟨X, 4, none⟩ = some (.int .i64 place') ∧ w7.cell? ⟨X, 5, none⟩ = some (.int .i64 who) ∧ w7.cell? ⟨m, 3 + wh, none⟩ = some (.pointer (q2.map fun b => ⟨b, 0, none⟩))) := fun w7 hg => ⟨hX6 w7 hg _ _ HH6.out.1, hX6 w7 hg _ _ HH6.out.2.1, hX6 w7 hg _ _ HH6.out.2.2.1, hX6 w7 hg _ _ HH6.out.2.2.2.1, hX6 w7 hg _ _ HH6.out.2.2.2.2.1, hX6 w7 hg _ _ HH6.out.2.2.2.2.2.1, (Keeps.ofGrown hg).cell' HH6.out.2.2.2.2.2.2 fun e => HBl.out (by simp [Value.ownBlock] at e; exact e)⟩
      have HHs : Hid (∀ w7 : World, (w7.cell? ⟨X, 0, none⟩ = some (.slice ao n cap) ∧ w7.cell? ⟨X, 1, none⟩ = some (.int .i64 place) ∧ w7.cell? ⟨X, 2, none⟩ = some (.pointer (q.map fun b => ⟨b, 0, none⟩)) ∧ w7.cell? ⟨X, 3, none⟩ = some (.slice ao' n' cap') ∧ w7.cell? ⟨X, 4, none⟩ = some (.int .i64 place') ∧ w7.cell? ⟨X, 5, none⟩ = some (.int .i64 who) ∧ w7.cell? ⟨m, 3 + wh, none⟩ = some (.pointer (q2.map fun b => ⟨b, 0, none⟩))) → ∀ v, RowDone w (w7.setCell ⟨m, 2, none⟩ v) m 2 93 6 cs (.slice (some ⟨bl, 0, none⟩) nl cl) (nl + 1) (xs ++ [.slice ao n cap, .int .i64 place, .pointer (q2.map fun b => ⟨b, 0, none⟩), .slice ao' n' cap', .int .i64 place', .int .i64 (wh : Int)]) → (w7.setCell ⟨m, 2, none⟩ v).cell? ⟨X, 0, none⟩ = some (.slice ao n cap) ∧ (w7.setCell ⟨m, 2, none⟩ v).cell? ⟨X, 1, none⟩ = some (.int .i64 place) ∧ (w7.setCell ⟨m, 2, none⟩ v).cell? ⟨X, 2, none⟩ = some (.pointer (q.map fun b => ⟨b, 0, none⟩)) ∧ (w7.setCell ⟨m, 2, none⟩ v).cell? ⟨X, 3, none⟩ = some (.slice ao' n' cap') ∧ (w7.setCell ⟨m, 2, none⟩ v).cell? ⟨X, 4, none⟩ = some (.int .i64 place') ∧ (w7.setCell ⟨m, 2, none⟩ v).cell? ⟨X, 5, none⟩ = some (.int .i64 who) ∧ (w7.setCell ⟨m, 2, none⟩ v).cell? ⟨m, 3 + wh, none⟩ = some (.pointer (q2.map fun b => ⟨b, 0, none⟩))) := fun w7 h7 v rd => by
        obtain ⟨q0, q1, q2', q3, q4, q5, q6⟩ := h7
        have far : ∀ j u, w7.cell? ⟨X, j, none⟩ = some u → (w7.setCell ⟨m, 2, none⟩ v).cell? ⟨X, j, none⟩ = some u := fun j u hu => (cell_setCell_far w7 (fun e => HXm.out e.symm) v 2 j).trans hu
        obtain ⟨v'', r1, -⟩ := rd
        refine ⟨far _ _ q0, far _ _ q1, far _ _ q2', far _ _ q3, far _ _ q4, far _ _ q5, ?_⟩
        rw [cell_of_row _ m (3 + wh) _ _ _ r1, Array.getElem?_setIfInBounds_ne (by omega)]
        exact HM.out.2.2
      clear hk9 hk6 hX6
      unfold viewV
      go_wp2_with fail
      refine hK.out _ _ HH9.out (fun hHeld => ?_)
      clear hK Kc
      (try simp only [Act.put]); (try simp only [List.setIfInBounds_toArray]); (try simp only [List.set_cons_succ]); (try simp only [List.set_cons_zero])
      refine wpAnyH_take (i := 17) (oi := { dst := some 165, op := Go.Op.build 93 #[(0, Go.Operand.tmp 161), (1, Go.Operand.tmp 163), (2, Go.Operand.tmp 164)], type := 93, pos := "law.go:277", after := #[{ on := 13, ground := Go.Ground.data }, { on := 15, ground := Go.Ground.data }, { on := 16, ground := Go.Ground.data }], guard := none }) (v := ?v17xa1) rfl (by kernel_rfl) (by kernel_rfl) (by kernel_rfl) (fun _ _ _ h => h) (Or.inl ⟨by rfl, ?y17xa1⟩) (by assumption) ?r17xa1
      case y17xa1 => (intro w hSw; obtain ⟨s0, s1, s2, s3, s4, s5, s6⟩ := hSw; go_simp; (try with_reducible rfl))
      (try simp only [Act.put]); (try simp only [List.setIfInBounds_toArray]); (try simp only [List.set_cons_succ]); (try simp only [List.set_cons_zero])
      refine wpAnyH_ready (rs := [18]) (by kernel_rfl) (by simp) ?_
      refine AllReadyH.cons (o := { dst := some 166, op := Go.Op.buildSlice 78 1 #[(0, Go.Operand.tmp 165)], type := 78, pos := "law.go:277", after := #[{ on := 17, ground := Go.Ground.data }], guard := none }) rfl (fun Kc hK => ?_) AllReadyH.nil
      go_simp
      refine hK.out _ _ (HH6.out) (fun hHeld => ?_)
      clear hK Kc
      (try simp only [Act.put]); (try simp only [List.setIfInBounds_toArray]); (try simp only [List.set_cons_succ]); (try simp only [List.set_cons_zero])
      refine wpAnyH_ready (rs := [19]) (by kernel_rfl) (by simp) ?_
      refine AllReadyH.cons (o := { dst := some 167, op := Go.Op.call { callee := Go.Callee.builtin Go.Builtin.append, args := #[Go.Operand.tmp 152, Go.Operand.tmp 166], argTypes := #[78, 78] }, type := 78, pos := "law.go:277", after := #[{ on := 4, ground := Go.Ground.data }, { on := 18, ground := Go.Ground.data }, { on := 13, ground := Go.Ground.chain }], guard := none }) rfl (fun Kc hK => ?_) AllReadyH.nil
      refine step_append_anyN (P := Try.prog) _ rfl (.tmp 152) (.tmp 166) 78 78 rfl 93 (.agg #[.slice none 0 0, .int .i64 0, .pointer none, .slice none 0 0, .int .i64 0, .int .i64 0]) 6 80 Try.underlying78 info93 rfl (.slice (some ⟨bl, 0, none⟩) nl cl) nl xs rfl HOv.out (.slice (some ⟨w9.heap.size, 0, none⟩) 1 1) 1 [.slice ao n cap, .int .i64 place, .pointer (q2.map fun b => ⟨b, 0, none⟩), .slice ao' n' cap', .int .i64 place', .int .i64 (wh : Int)] rfl HSv.out (by omega) (by omega) ?_
      intro v' w7 ha1' ha2' ha3'
      obtain ⟨uo, uc, rfl⟩ := ownN_form ha1'
      obtain ⟨p1, p2, hrd⟩ := HGr.out w7 uo uc ha1' ha2' ha3'
      have HRD := hidM hrd
      have HH7 := hidM (HHg.out w7 ha2')
      have HH8 := hidM (HHs.out w7 HH7.out (.slice uo (nl + 1) uc) hrd)
      clear ha1' ha2' ha3' hrd
      refine hK.out _ _ HH7.out (fun hHeld => ?_)
      clear hK Kc
      (try simp only [Act.put]); (try simp only [List.setIfInBounds_toArray]); (try simp only [List.set_cons_succ]); (try simp only [List.set_cons_zero])
      refine wpAnyH_take (i := 20) (oi := { dst := some 168, op := Go.Op.nilCheck (Go.Operand.tmp 148), type := 0, pos := "law.go:277", after := #[{ on := 0, ground := Go.Ground.data }, { on := 0, ground := Go.Ground.phase }, { on := 1, ground := Go.Ground.phase }, { on := 2, ground := Go.Ground.phase }, { on := 3, ground := Go.Ground.phase }, { on := 4, ground := Go.Ground.phase }, { on := 5, ground := Go.Ground.phase }, { on := 6, ground := Go.Ground.phase }, { on := 7, ground := Go.Ground.phase }, { on := 8, ground := Go.Ground.phase }, { on := 9, ground := Go.Ground.phase }, { on := 10, ground := Go.Ground.phase }, { on := 11, ground := Go.Ground.phase }, { on := 12, ground := Go.Ground.phase }, { on := 13, ground := Go.Ground.phase }, { on := 14, ground := Go.Ground.phase }, { on := 15, ground := Go.Ground.phase }, { on := 16, ground := Go.Ground.phase }, { on := 17, ground := Go.Ground.phase }, { on := 18, ground := Go.Ground.phase }, { on := 19, ground := Go.Ground.phase }], guard := none }) (v := ?v20ya1) rfl (by kernel_rfl) (by kernel_rfl) (by kernel_rfl) (fun _ _ _ h => h) (Or.inl ⟨by rfl, ?y20ya1⟩) (by assumption) ?r20ya1
      case y20ya1 => (intro w hSw; obtain ⟨s0, s1, s2, s3, s4, s5, s6⟩ := hSw; go_simp; (try with_reducible rfl))
      (try simp only [Act.put]); (try simp only [List.setIfInBounds_toArray]); (try simp only [List.set_cons_succ]); (try simp only [List.set_cons_zero])
      refine wpAnyH_take (i := 21) (oi := { dst := some 169, op := Go.Op.fieldAddr 87 (Go.Operand.tmp 168) 2, type := 0, pos := "law.go:277", after := #[{ on := 20, ground := Go.Ground.data }, { on := 0, ground := Go.Ground.phase }, { on := 1, ground := Go.Ground.phase }, { on := 2, ground := Go.Ground.phase }, { on := 3, ground := Go.Ground.phase }, { on := 4, ground := Go.Ground.phase }, { on := 5, ground := Go.Ground.phase }, { on := 6, ground := Go.Ground.phase }, { on := 7, ground := Go.Ground.phase }, { on := 8, ground := Go.Ground.phase }, { on := 9, ground := Go.Ground.phase }, { on := 10, ground := Go.Ground.phase }, { on := 11, ground := Go.Ground.phase }, { on := 12, ground := Go.Ground.phase }, { on := 13, ground := Go.Ground.phase }, { on := 14, ground := Go.Ground.phase }, { on := 15, ground := Go.Ground.phase }, { on := 16, ground := Go.Ground.phase }, { on := 17, ground := Go.Ground.phase }, { on := 18, ground := Go.Ground.phase }, { on := 19, ground := Go.Ground.phase }], guard := none }) (v := ?v21ya2) rfl (by kernel_rfl) (by kernel_rfl) (by kernel_rfl) (fun _ _ _ h => h) (Or.inl ⟨by rfl, ?y21ya2⟩) (by assumption) ?r21ya2
      case y21ya2 => (intro w hSw; obtain ⟨s0, s1, s2, s3, s4, s5, s6⟩ := hSw; go_simp; (try with_reducible rfl))
      (try simp only [Act.put]); (try simp only [List.setIfInBounds_toArray]); (try simp only [List.set_cons_succ]); (try simp only [List.set_cons_zero])
      refine wpAnyH_ready (rs := [22]) (by kernel_rfl) (by simp) ?_
      refine AllReadyH.cons (o := { dst := none, op := Go.Op.store 78 (Go.Operand.tmp 169) (Go.Operand.tmp 167), type := 0, pos := "law.go:277", after := #[{ on := 21, ground := Go.Ground.data }, { on := 19, ground := Go.Ground.data }, { on := 19, ground := Go.Ground.chain }, { on := 0, ground := Go.Ground.phase }, { on := 1, ground := Go.Ground.phase }, { on := 2, ground := Go.Ground.phase }, { on := 3, ground := Go.Ground.phase }, { on := 4, ground := Go.Ground.phase }, { on := 5, ground := Go.Ground.phase }, { on := 6, ground := Go.Ground.phase }, { on := 7, ground := Go.Ground.phase }, { on := 8, ground := Go.Ground.phase }, { on := 9, ground := Go.Ground.phase }, { on := 10, ground := Go.Ground.phase }, { on := 11, ground := Go.Ground.phase }, { on := 12, ground := Go.Ground.phase }, { on := 13, ground := Go.Ground.phase }, { on := 14, ground := Go.Ground.phase }, { on := 15, ground := Go.Ground.phase }, { on := 16, ground := Go.Ground.phase }, { on := 17, ground := Go.Ground.phase }, { on := 18, ground := Go.Ground.phase }, { on := 19, ground := Go.Ground.phase }], guard := none }) rfl (fun Kc hK => ?_) AllReadyH.nil
      go_simp
      refine hK.out _ _ HH8.out (fun hHeld => ?_)
      clear hK Kc
      (try simp only [Act.put]); (try simp only [List.setIfInBounds_toArray]); (try simp only [List.set_cons_succ]); (try simp only [List.set_cons_zero])
      refine wpAnyH_done (by kernel_rfl) ?_ _
      clear hHeld
      go_wp2_with fail
      go_ret
      exact ⟨rfl, HRD.out⟩
    · go_simp
      go_at_call 15
      refine Calls.mono (watched_any ao n cap place q q2 _) ?_
      rintro e w9 ⟨rfl, hk9⟩
      have HK9 : Hid (Keeps w w9 (fun _ => False)) := HK.out.drew.trans hk9 fun _ _ e => e
      have HH9 : Hid (w9.cell? ⟨X, 0, none⟩ = some (.slice ao n cap) ∧ w9.cell? ⟨X, 1, none⟩ = some (.int .i64 place) ∧ w9.cell? ⟨X, 2, none⟩ = some (.pointer (q.map fun b => ⟨b, 0, none⟩)) ∧ w9.cell? ⟨X, 3, none⟩ = some (.slice ao' n' cap') ∧ w9.cell? ⟨X, 4, none⟩ = some (.int .i64 place') ∧ w9.cell? ⟨X, 5, none⟩ = some (.int .i64 who) ∧ w9.cell? ⟨m, 3 + wh, none⟩ = some (.pointer (q2.map fun b => ⟨b, 0, none⟩))) := ⟨hk9.cell' e0 id, hk9.cell' e1 id, hk9.cell' e2 id, hk9.cell' e3 id, hk9.cell' e4 id, hk9.cell' e5 id, hk9.cell' cw id⟩
      have c29 : w9.cell? ⟨m, 2, none⟩ = some (.slice (some ⟨bl, 0, none⟩) nl cl) := hk9.cell' c2 id
      obtain ⟨V6, hV6⟩ : ∃ V6, w9.alloc (.cells #[.slice ao n cap, .int .i64 place, .pointer (q2.map fun b => ⟨b, 0, none⟩), .slice ao' n' cap', .int .i64 place', .int .i64 (wh : Int)] 93) = V6 := ⟨_, rfl⟩
      have hk6 : Keeps w9 V6 (fun _ => False) := by rw [← hV6]; exact (Keeps.refl _ _).alloc _
      have HK6 : Hid (Keeps w V6 (fun _ => False)) := HK9.out.trans hk6 fun _ _ e => e
      have HH6 : Hid (V6.cell? ⟨X, 0, none⟩ = some (.slice ao n cap) ∧ V6.cell? ⟨X, 1, none⟩ = some (.int .i64 place) ∧ V6.cell? ⟨X, 2, none⟩ = some (.pointer (q.map fun b => ⟨b, 0, none⟩)) ∧ V6.cell? ⟨X, 3, none⟩ = some (.slice ao' n' cap') ∧ V6.cell? ⟨X, 4, none⟩ = some (.int .i64 place') ∧ V6.cell? ⟨X, 5, none⟩ = some (.int .i64 who) ∧ V6.cell? ⟨m, 3 + wh, none⟩ = some (.pointer (q2.map fun b => ⟨b, 0, none⟩))) := ⟨hk6.cell' HH9.out.1 id, hk6.cell' HH9.out.2.1 id, hk6.cell' HH9.out.2.2.1 id, hk6.cell' HH9.out.2.2.2.1 id, hk6.cell' HH9.out.2.2.2.2.1 id, hk6.cell' HH9.out.2.2.2.2.2.1 id, hk6.cell' HH9.out.2.2.2.2.2.2 id⟩
      have c26 : V6.cell? ⟨m, 2, none⟩ = some (.slice (some ⟨bl, 0, none⟩) nl cl) := hk6.cell' c29 id
      have HOv : Hid (V6.ownsRow 0 93 6 (.slice (some ⟨bl, 0, none⟩) nl cl) nl xs) := ownN_kept HO.out HK6.out fun _ _ => id
      have HSv : Hid (Src Try.prog 6 78 (.slice (some ⟨w9.heap.size, 0, none⟩) 1 1) 1 [.slice ao n cap, .int .i64 place, .pointer (q2.map fun b => ⟨b, 0, none⟩), .slice ao' n' cap', .int .i64 place', .int .i64 (wh : Int)] V6) := by rw [← hV6]; exact src6 w9 _ _ _ _ _ _ (by simp [Value.oneCell'])
      have HGr : Hid (∀ (w7 : World) (uo : Option Addr) (uc : Nat), w7.ownsRow 0 93 6 (.slice uo (nl + 1) uc) (nl + 1) (xs ++ [.slice ao n cap, .int .i64 place, .pointer (q2.map fun b => ⟨b, 0, none⟩), .slice ao' n' cap', .int .i64 place', .int .i64 (wh : Int)]) → V6.grownBy w7 (Value.slice (some ⟨bl, 0, none⟩) nl cl).ownBlock → ((Value.slice uo (nl + 1) uc).ownBlock = (Value.slice (some ⟨bl, 0, none⟩) nl cl).ownBlock ∨ ∀ g', (Value.slice uo (nl + 1) uc).ownBlock = some g' → V6.heap.size ≤ g') → w7.cell? ⟨m, 2, none⟩ = some (.slice (some ⟨bl, 0, none⟩) nl cl) ∧ w7.frozen? ⟨m, 2, none⟩ = false ∧ RowDone w (w7.setCell ⟨m, 2, none⟩ (.slice uo (nl + 1) uc)) m 2 93 6 cs (.slice (some ⟨bl, 0, none⟩) nl cl) (nl + 1) (xs ++ [.slice ao n cap, .int .i64 place, .pointer (q2.map fun b => ⟨b, 0, none⟩), .slice ao' n' cap', .int .i64 place', .int .i64 (wh : Int)])) := fun w7 uo uc a1 a2 a3 => RowDone.grown (off := 2) (by decide) HK6.out HM.out.1 HM.out.2.1 (fun g' e e2 => absurd (e2 ▸ e) (ownN_ne (by decide) HM.out.1 HO.out)) a1 a2 a3
      have hX6 : ∀ w7 : World, V6.grownBy w7 (Value.slice (some ⟨bl, 0, none⟩) nl cl).ownBlock → ∀ j v, V6.cell? ⟨X, j, none⟩ = some v → w7.cell? ⟨X, j, none⟩ = some v := fun w7 hg j v h => (Keeps.ofGrown hg).cell' h fun e => HXl.out (by simp [Value.ownBlock] at e; exact e.symm)
      have HHg : Hid (∀ w7 : World, V6.grownBy w7 (Value.slice (some ⟨bl, 0, none⟩) nl cl).ownBlock → w7.cell? ⟨X, 0, none⟩ = some (.slice ao n cap) ∧ w7.cell? ⟨X, 1, none⟩ = some (.int .i64 place) ∧ w7.cell? ⟨X, 2, none⟩ = some (.pointer (q.map fun b => ⟨b, 0, none⟩)) ∧ w7.cell? ⟨X, 3, none⟩ = some (.slice ao' n' cap') ∧ w7.cell? ⟨X, 4, none⟩ = some (.int .i64 place') ∧ w7.cell? ⟨X, 5, none⟩ = some (.int .i64 who) ∧ w7.cell? ⟨m, 3 + wh, none⟩ = some (.pointer (q2.map fun b => ⟨b, 0, none⟩))) := fun w7 hg => ⟨hX6 w7 hg _ _ HH6.out.1, hX6 w7 hg _ _ HH6.out.2.1, hX6 w7 hg _ _ HH6.out.2.2.1, hX6 w7 hg _ _ HH6.out.2.2.2.1, hX6 w7 hg _ _ HH6.out.2.2.2.2.1, hX6 w7 hg _ _ HH6.out.2.2.2.2.2.1, (Keeps.ofGrown hg).cell' HH6.out.2.2.2.2.2.2 fun e => HBl.out (by simp [Value.ownBlock] at e; exact e)⟩
      have HHs : Hid (∀ w7 : World, (w7.cell? ⟨X, 0, none⟩ = some (.slice ao n cap) ∧ w7.cell? ⟨X, 1, none⟩ = some (.int .i64 place) ∧ w7.cell? ⟨X, 2, none⟩ = some (.pointer (q.map fun b => ⟨b, 0, none⟩)) ∧ w7.cell? ⟨X, 3, none⟩ = some (.slice ao' n' cap') ∧ w7.cell? ⟨X, 4, none⟩ = some (.int .i64 place') ∧ w7.cell? ⟨X, 5, none⟩ = some (.int .i64 who) ∧ w7.cell? ⟨m, 3 + wh, none⟩ = some (.pointer (q2.map fun b => ⟨b, 0, none⟩))) → ∀ v, RowDone w (w7.setCell ⟨m, 2, none⟩ v) m 2 93 6 cs (.slice (some ⟨bl, 0, none⟩) nl cl) (nl + 1) (xs ++ [.slice ao n cap, .int .i64 place, .pointer (q2.map fun b => ⟨b, 0, none⟩), .slice ao' n' cap', .int .i64 place', .int .i64 (wh : Int)]) → (w7.setCell ⟨m, 2, none⟩ v).cell? ⟨X, 0, none⟩ = some (.slice ao n cap) ∧ (w7.setCell ⟨m, 2, none⟩ v).cell? ⟨X, 1, none⟩ = some (.int .i64 place) ∧ (w7.setCell ⟨m, 2, none⟩ v).cell? ⟨X, 2, none⟩ = some (.pointer (q.map fun b => ⟨b, 0, none⟩)) ∧ (w7.setCell ⟨m, 2, none⟩ v).cell? ⟨X, 3, none⟩ = some (.slice ao' n' cap') ∧ (w7.setCell ⟨m, 2, none⟩ v).cell? ⟨X, 4, none⟩ = some (.int .i64 place') ∧ (w7.setCell ⟨m, 2, none⟩ v).cell? ⟨X, 5, none⟩ = some (.int .i64 who) ∧ (w7.setCell ⟨m, 2, none⟩ v).cell? ⟨m, 3 + wh, none⟩ = some (.pointer (q2.map fun b => ⟨b, 0, none⟩))) := fun w7 h7 v rd => by
        obtain ⟨q0, q1, q2', q3, q4, q5, q6⟩ := h7
        have far : ∀ j u, w7.cell? ⟨X, j, none⟩ = some u → (w7.setCell ⟨m, 2, none⟩ v).cell? ⟨X, j, none⟩ = some u := fun j u hu => (cell_setCell_far w7 (fun e => HXm.out e.symm) v 2 j).trans hu
        obtain ⟨v'', r1, -⟩ := rd
        refine ⟨far _ _ q0, far _ _ q1, far _ _ q2', far _ _ q3, far _ _ q4, far _ _ q5, ?_⟩
        rw [cell_of_row _ m (3 + wh) _ _ _ r1, Array.getElem?_setIfInBounds_ne (by omega)]
        exact HM.out.2.2
      clear hk9 hk6 hX6
      unfold viewV
      go_wp2_with fail
      refine hK.out _ _ HH9.out (fun hHeld => ?_)
      clear hK Kc
      (try simp only [Act.put]); (try simp only [List.setIfInBounds_toArray]); (try simp only [List.set_cons_succ]); (try simp only [List.set_cons_zero])
      refine wpAnyH_take (i := 17) (oi := { dst := some 165, op := Go.Op.build 93 #[(0, Go.Operand.tmp 161), (1, Go.Operand.tmp 163), (2, Go.Operand.tmp 164)], type := 93, pos := "law.go:277", after := #[{ on := 13, ground := Go.Ground.data }, { on := 15, ground := Go.Ground.data }, { on := 16, ground := Go.Ground.data }], guard := none }) (v := ?v17za1) rfl (by kernel_rfl) (by kernel_rfl) (by kernel_rfl) (fun _ _ _ h => h) (Or.inl ⟨by rfl, ?y17za1⟩) (by assumption) ?r17za1
      case y17za1 => (intro w hSw; obtain ⟨s0, s1, s2, s3, s4, s5, s6⟩ := hSw; go_simp; (try with_reducible rfl))
      (try simp only [Act.put]); (try simp only [List.setIfInBounds_toArray]); (try simp only [List.set_cons_succ]); (try simp only [List.set_cons_zero])
      refine wpAnyH_ready (rs := [4, 18]) (by kernel_rfl) (by simp) ?_
      refine AllReadyH.cons (o := { dst := some 152, op := Go.Op.load 78 (Go.Operand.tmp 151), type := 78, pos := "law.go:277", after := #[{ on := 3, ground := Go.Ground.data }], guard := none }) rfl (fun Kc hK => ?_) (AllReadyH.cons (o := { dst := some 166, op := Go.Op.buildSlice 78 1 #[(0, Go.Operand.tmp 165)], type := 78, pos := "law.go:277", after := #[{ on := 17, ground := Go.Ground.data }], guard := none }) rfl (fun Kc hK => ?_) AllReadyH.nil)
      · go_simp
        refine hK.out _ _ HH9.out (fun hHeld => ?_)
        clear hK Kc
        (try simp only [Act.put]); (try simp only [List.setIfInBounds_toArray]); (try simp only [List.set_cons_succ]); (try simp only [List.set_cons_zero])
        refine wpAnyH_ready (rs := [18]) (by kernel_rfl) (by simp) ?_
        refine AllReadyH.cons (o := { dst := some 166, op := Go.Op.buildSlice 78 1 #[(0, Go.Operand.tmp 165)], type := 78, pos := "law.go:277", after := #[{ on := 17, ground := Go.Ground.data }], guard := none }) rfl (fun Kc hK => ?_) AllReadyH.nil
        go_simp
        refine hK.out _ _ (HH6.out) (fun hHeld => ?_)
        clear hK Kc
        (try simp only [Act.put]); (try simp only [List.setIfInBounds_toArray]); (try simp only [List.set_cons_succ]); (try simp only [List.set_cons_zero])
        refine wpAnyH_ready (rs := [19]) (by kernel_rfl) (by simp) ?_
        refine AllReadyH.cons (o := { dst := some 167, op := Go.Op.call { callee := Go.Callee.builtin Go.Builtin.append, args := #[Go.Operand.tmp 152, Go.Operand.tmp 166], argTypes := #[78, 78] }, type := 78, pos := "law.go:277", after := #[{ on := 4, ground := Go.Ground.data }, { on := 18, ground := Go.Ground.data }, { on := 13, ground := Go.Ground.chain }], guard := none }) rfl (fun Kc hK => ?_) AllReadyH.nil
        refine step_append_anyN (P := Try.prog) _ rfl (.tmp 152) (.tmp 166) 78 78 rfl 93 (.agg #[.slice none 0 0, .int .i64 0, .pointer none, .slice none 0 0, .int .i64 0, .int .i64 0]) 6 80 Try.underlying78 info93 rfl (.slice (some ⟨bl, 0, none⟩) nl cl) nl xs rfl HOv.out (.slice (some ⟨w9.heap.size, 0, none⟩) 1 1) 1 [.slice ao n cap, .int .i64 place, .pointer (q2.map fun b => ⟨b, 0, none⟩), .slice ao' n' cap', .int .i64 place', .int .i64 (wh : Int)] rfl HSv.out (by omega) (by omega) ?_
        intro v' w7 ha1' ha2' ha3'
        obtain ⟨uo, uc, rfl⟩ := ownN_form ha1'
        obtain ⟨p1, p2, hrd⟩ := HGr.out w7 uo uc ha1' ha2' ha3'
        have HRD := hidM hrd
        have HH7 := hidM (HHg.out w7 ha2')
        have HH8 := hidM (HHs.out w7 HH7.out (.slice uo (nl + 1) uc) hrd)
        clear ha1' ha2' ha3' hrd
        refine hK.out _ _ HH7.out (fun hHeld => ?_)
        clear hK Kc
        (try simp only [Act.put]); (try simp only [List.setIfInBounds_toArray]); (try simp only [List.set_cons_succ]); (try simp only [List.set_cons_zero])
        refine wpAnyH_take (i := 20) (oi := { dst := some 168, op := Go.Op.nilCheck (Go.Operand.tmp 148), type := 0, pos := "law.go:277", after := #[{ on := 0, ground := Go.Ground.data }, { on := 0, ground := Go.Ground.phase }, { on := 1, ground := Go.Ground.phase }, { on := 2, ground := Go.Ground.phase }, { on := 3, ground := Go.Ground.phase }, { on := 4, ground := Go.Ground.phase }, { on := 5, ground := Go.Ground.phase }, { on := 6, ground := Go.Ground.phase }, { on := 7, ground := Go.Ground.phase }, { on := 8, ground := Go.Ground.phase }, { on := 9, ground := Go.Ground.phase }, { on := 10, ground := Go.Ground.phase }, { on := 11, ground := Go.Ground.phase }, { on := 12, ground := Go.Ground.phase }, { on := 13, ground := Go.Ground.phase }, { on := 14, ground := Go.Ground.phase }, { on := 15, ground := Go.Ground.phase }, { on := 16, ground := Go.Ground.phase }, { on := 17, ground := Go.Ground.phase }, { on := 18, ground := Go.Ground.phase }, { on := 19, ground := Go.Ground.phase }], guard := none }) (v := ?v20ua1) rfl (by kernel_rfl) (by kernel_rfl) (by kernel_rfl) (fun _ _ _ h => h) (Or.inl ⟨by rfl, ?y20ua1⟩) (by assumption) ?r20ua1
        case y20ua1 => (intro w hSw; obtain ⟨s0, s1, s2, s3, s4, s5, s6⟩ := hSw; go_simp; (try with_reducible rfl))
        (try simp only [Act.put]); (try simp only [List.setIfInBounds_toArray]); (try simp only [List.set_cons_succ]); (try simp only [List.set_cons_zero])
        refine wpAnyH_take (i := 21) (oi := { dst := some 169, op := Go.Op.fieldAddr 87 (Go.Operand.tmp 168) 2, type := 0, pos := "law.go:277", after := #[{ on := 20, ground := Go.Ground.data }, { on := 0, ground := Go.Ground.phase }, { on := 1, ground := Go.Ground.phase }, { on := 2, ground := Go.Ground.phase }, { on := 3, ground := Go.Ground.phase }, { on := 4, ground := Go.Ground.phase }, { on := 5, ground := Go.Ground.phase }, { on := 6, ground := Go.Ground.phase }, { on := 7, ground := Go.Ground.phase }, { on := 8, ground := Go.Ground.phase }, { on := 9, ground := Go.Ground.phase }, { on := 10, ground := Go.Ground.phase }, { on := 11, ground := Go.Ground.phase }, { on := 12, ground := Go.Ground.phase }, { on := 13, ground := Go.Ground.phase }, { on := 14, ground := Go.Ground.phase }, { on := 15, ground := Go.Ground.phase }, { on := 16, ground := Go.Ground.phase }, { on := 17, ground := Go.Ground.phase }, { on := 18, ground := Go.Ground.phase }, { on := 19, ground := Go.Ground.phase }], guard := none }) (v := ?v21ua2) rfl (by kernel_rfl) (by kernel_rfl) (by kernel_rfl) (fun _ _ _ h => h) (Or.inl ⟨by rfl, ?y21ua2⟩) (by assumption) ?r21ua2
        case y21ua2 => (intro w hSw; obtain ⟨s0, s1, s2, s3, s4, s5, s6⟩ := hSw; go_simp; (try with_reducible rfl))
        (try simp only [Act.put]); (try simp only [List.setIfInBounds_toArray]); (try simp only [List.set_cons_succ]); (try simp only [List.set_cons_zero])
        refine wpAnyH_ready (rs := [22]) (by kernel_rfl) (by simp) ?_
        refine AllReadyH.cons (o := { dst := none, op := Go.Op.store 78 (Go.Operand.tmp 169) (Go.Operand.tmp 167), type := 0, pos := "law.go:277", after := #[{ on := 21, ground := Go.Ground.data }, { on := 19, ground := Go.Ground.data }, { on := 19, ground := Go.Ground.chain }, { on := 0, ground := Go.Ground.phase }, { on := 1, ground := Go.Ground.phase }, { on := 2, ground := Go.Ground.phase }, { on := 3, ground := Go.Ground.phase }, { on := 4, ground := Go.Ground.phase }, { on := 5, ground := Go.Ground.phase }, { on := 6, ground := Go.Ground.phase }, { on := 7, ground := Go.Ground.phase }, { on := 8, ground := Go.Ground.phase }, { on := 9, ground := Go.Ground.phase }, { on := 10, ground := Go.Ground.phase }, { on := 11, ground := Go.Ground.phase }, { on := 12, ground := Go.Ground.phase }, { on := 13, ground := Go.Ground.phase }, { on := 14, ground := Go.Ground.phase }, { on := 15, ground := Go.Ground.phase }, { on := 16, ground := Go.Ground.phase }, { on := 17, ground := Go.Ground.phase }, { on := 18, ground := Go.Ground.phase }, { on := 19, ground := Go.Ground.phase }], guard := none }) rfl (fun Kc hK => ?_) AllReadyH.nil
        go_simp
        refine hK.out _ _ HH8.out (fun hHeld => ?_)
        clear hK Kc
        (try simp only [Act.put]); (try simp only [List.setIfInBounds_toArray]); (try simp only [List.set_cons_succ]); (try simp only [List.set_cons_zero])
        refine wpAnyH_done (by kernel_rfl) ?_ _
        clear hHeld
        go_wp2_with fail
        go_ret
        exact ⟨rfl, HRD.out⟩
      · go_simp
        refine hK.out _ _ HH6.out (fun hHeld => ?_)
        clear hK Kc
        (try simp only [Act.put]); (try simp only [List.setIfInBounds_toArray]); (try simp only [List.set_cons_succ]); (try simp only [List.set_cons_zero])
        refine wpAnyH_ready (rs := [4]) (by kernel_rfl) (by simp) ?_
        refine AllReadyH.cons (o := { dst := some 152, op := Go.Op.load 78 (Go.Operand.tmp 151), type := 78, pos := "law.go:277", after := #[{ on := 3, ground := Go.Ground.data }], guard := none }) rfl (fun Kc hK => ?_) AllReadyH.nil
        go_simp
        refine hK.out _ _ HH6.out (fun hHeld => ?_)
        clear hK Kc
        (try simp only [Act.put]); (try simp only [List.setIfInBounds_toArray]); (try simp only [List.set_cons_succ]); (try simp only [List.set_cons_zero])
        refine wpAnyH_ready (rs := [19]) (by kernel_rfl) (by simp) ?_
        refine AllReadyH.cons (o := { dst := some 167, op := Go.Op.call { callee := Go.Callee.builtin Go.Builtin.append, args := #[Go.Operand.tmp 152, Go.Operand.tmp 166], argTypes := #[78, 78] }, type := 78, pos := "law.go:277", after := #[{ on := 4, ground := Go.Ground.data }, { on := 18, ground := Go.Ground.data }, { on := 13, ground := Go.Ground.chain }], guard := none }) rfl (fun Kc hK => ?_) AllReadyH.nil
        refine step_append_anyN (P := Try.prog) _ rfl (.tmp 152) (.tmp 166) 78 78 rfl 93 (.agg #[.slice none 0 0, .int .i64 0, .pointer none, .slice none 0 0, .int .i64 0, .int .i64 0]) 6 80 Try.underlying78 info93 rfl (.slice (some ⟨bl, 0, none⟩) nl cl) nl xs rfl HOv.out (.slice (some ⟨w9.heap.size, 0, none⟩) 1 1) 1 [.slice ao n cap, .int .i64 place, .pointer (q2.map fun b => ⟨b, 0, none⟩), .slice ao' n' cap', .int .i64 place', .int .i64 (wh : Int)] rfl HSv.out (by omega) (by omega) ?_
        intro v' w7 ha1' ha2' ha3'
        obtain ⟨uo, uc, rfl⟩ := ownN_form ha1'
        obtain ⟨p1, p2, hrd⟩ := HGr.out w7 uo uc ha1' ha2' ha3'
        have HRD := hidM hrd
        have HH7 := hidM (HHg.out w7 ha2')
        have HH8 := hidM (HHs.out w7 HH7.out (.slice uo (nl + 1) uc) hrd)
        clear ha1' ha2' ha3' hrd
        refine hK.out _ _ HH7.out (fun hHeld => ?_)
        clear hK Kc
        (try simp only [Act.put]); (try simp only [List.setIfInBounds_toArray]); (try simp only [List.set_cons_succ]); (try simp only [List.set_cons_zero])
        refine wpAnyH_take (i := 20) (oi := { dst := some 168, op := Go.Op.nilCheck (Go.Operand.tmp 148), type := 0, pos := "law.go:277", after := #[{ on := 0, ground := Go.Ground.data }, { on := 0, ground := Go.Ground.phase }, { on := 1, ground := Go.Ground.phase }, { on := 2, ground := Go.Ground.phase }, { on := 3, ground := Go.Ground.phase }, { on := 4, ground := Go.Ground.phase }, { on := 5, ground := Go.Ground.phase }, { on := 6, ground := Go.Ground.phase }, { on := 7, ground := Go.Ground.phase }, { on := 8, ground := Go.Ground.phase }, { on := 9, ground := Go.Ground.phase }, { on := 10, ground := Go.Ground.phase }, { on := 11, ground := Go.Ground.phase }, { on := 12, ground := Go.Ground.phase }, { on := 13, ground := Go.Ground.phase }, { on := 14, ground := Go.Ground.phase }, { on := 15, ground := Go.Ground.phase }, { on := 16, ground := Go.Ground.phase }, { on := 17, ground := Go.Ground.phase }, { on := 18, ground := Go.Ground.phase }, { on := 19, ground := Go.Ground.phase }], guard := none }) (v := ?v20la1) rfl (by kernel_rfl) (by kernel_rfl) (by kernel_rfl) (fun _ _ _ h => h) (Or.inl ⟨by rfl, ?y20la1⟩) (by assumption) ?r20la1
        case y20la1 => (intro w hSw; obtain ⟨s0, s1, s2, s3, s4, s5, s6⟩ := hSw; go_simp; (try with_reducible rfl))
        (try simp only [Act.put]); (try simp only [List.setIfInBounds_toArray]); (try simp only [List.set_cons_succ]); (try simp only [List.set_cons_zero])
        refine wpAnyH_take (i := 21) (oi := { dst := some 169, op := Go.Op.fieldAddr 87 (Go.Operand.tmp 168) 2, type := 0, pos := "law.go:277", after := #[{ on := 20, ground := Go.Ground.data }, { on := 0, ground := Go.Ground.phase }, { on := 1, ground := Go.Ground.phase }, { on := 2, ground := Go.Ground.phase }, { on := 3, ground := Go.Ground.phase }, { on := 4, ground := Go.Ground.phase }, { on := 5, ground := Go.Ground.phase }, { on := 6, ground := Go.Ground.phase }, { on := 7, ground := Go.Ground.phase }, { on := 8, ground := Go.Ground.phase }, { on := 9, ground := Go.Ground.phase }, { on := 10, ground := Go.Ground.phase }, { on := 11, ground := Go.Ground.phase }, { on := 12, ground := Go.Ground.phase }, { on := 13, ground := Go.Ground.phase }, { on := 14, ground := Go.Ground.phase }, { on := 15, ground := Go.Ground.phase }, { on := 16, ground := Go.Ground.phase }, { on := 17, ground := Go.Ground.phase }, { on := 18, ground := Go.Ground.phase }, { on := 19, ground := Go.Ground.phase }], guard := none }) (v := ?v21la2) rfl (by kernel_rfl) (by kernel_rfl) (by kernel_rfl) (fun _ _ _ h => h) (Or.inl ⟨by rfl, ?y21la2⟩) (by assumption) ?r21la2
        case y21la2 => (intro w hSw; obtain ⟨s0, s1, s2, s3, s4, s5, s6⟩ := hSw; go_simp; (try with_reducible rfl))
        (try simp only [Act.put]); (try simp only [List.setIfInBounds_toArray]); (try simp only [List.set_cons_succ]); (try simp only [List.set_cons_zero])
        refine wpAnyH_ready (rs := [22]) (by kernel_rfl) (by simp) ?_
        refine AllReadyH.cons (o := { dst := none, op := Go.Op.store 78 (Go.Operand.tmp 169) (Go.Operand.tmp 167), type := 0, pos := "law.go:277", after := #[{ on := 21, ground := Go.Ground.data }, { on := 19, ground := Go.Ground.data }, { on := 19, ground := Go.Ground.chain }, { on := 0, ground := Go.Ground.phase }, { on := 1, ground := Go.Ground.phase }, { on := 2, ground := Go.Ground.phase }, { on := 3, ground := Go.Ground.phase }, { on := 4, ground := Go.Ground.phase }, { on := 5, ground := Go.Ground.phase }, { on := 6, ground := Go.Ground.phase }, { on := 7, ground := Go.Ground.phase }, { on := 8, ground := Go.Ground.phase }, { on := 9, ground := Go.Ground.phase }, { on := 10, ground := Go.Ground.phase }, { on := 11, ground := Go.Ground.phase }, { on := 12, ground := Go.Ground.phase }, { on := 13, ground := Go.Ground.phase }, { on := 14, ground := Go.Ground.phase }, { on := 15, ground := Go.Ground.phase }, { on := 16, ground := Go.Ground.phase }, { on := 17, ground := Go.Ground.phase }, { on := 18, ground := Go.Ground.phase }, { on := 19, ground := Go.Ground.phase }], guard := none }) rfl (fun Kc hK => ?_) AllReadyH.nil
        go_simp
        refine hK.out _ _ HH8.out (fun hHeld => ?_)
        clear hK Kc
        (try simp only [Act.put]); (try simp only [List.setIfInBounds_toArray]); (try simp only [List.set_cons_succ]); (try simp only [List.set_cons_zero])
        refine wpAnyH_done (by kernel_rfl) ?_ _
        clear hHeld
        go_wp2_with fail
        go_ret
        exact ⟨rfl, HRD.out⟩
  · clear c2 b1 z0 z1 z2 z3 z4 z5
    have KW := Keeps.none_alloc_drew' W (.cells #[.slice ao n cap, .int .i64 place, .pointer (q.map fun b => ⟨b, 0, none⟩), .slice ao' n' cap', .int .i64 place', .int .i64 who] 93)
    have hs : (W.alloc (.cells #[.slice ao n cap, .int .i64 place, .pointer (q.map fun b => ⟨b, 0, none⟩), .slice ao' n' cap', .int .i64 place', .int .i64 who] 93)).drew.heap[W.heap.size]? = some (.cells #[.slice ao n cap, .int .i64 place, .pointer (q.map fun b => ⟨b, 0, none⟩), .slice ao' n' cap', .int .i64 place', .int .i64 who] 93 (0, 0)) := heap_alloc_new W _
    have hr := KW.row HR.out id
    have hk : Keeps w (W.alloc (.cells #[.slice ao n cap, .int .i64 place, .pointer (q.map fun b => ⟨b, 0, none⟩), .slice ao' n' cap', .int .i64 place', .int .i64 who] 93)).drew (fun _ => False) := HK.out.trans KW fun _ _ e => e
    have HXw := hidM HK.out.size
    clear KW HR HK
    generalize (W.alloc (.cells #[.slice ao n cap, .int .i64 place, .pointer (q.map fun b => ⟨b, 0, none⟩), .slice ao' n' cap', .int .i64 place', .int .i64 who] 93)).drew = W' at *
    generalize W.heap.size = X at *
    obtain ⟨d0, d1, d2, d3⟩ := boxCells4 hr
    obtain ⟨e0, e1, e2, e3, e4, e5⟩ := boxCells6 hs
    have HK : Hid (Keeps w W' (fun _ => False)) := hk
    have HSb := hidM hs
    clear hr hs hk
    have c2 : W'.cell? ⟨m, 2, none⟩ = some (.slice (some ⟨bl, 0, none⟩) nl cl) := by rw [cell_of_row _ m 2 _ _ _ (HK.out.row HM.out.1 id)]; exact HM.out.2.1
    have cw : W'.cell? ⟨m, 3 + wh, none⟩ = some (.pointer (q2.map fun b => ⟨b, 0, none⟩)) := by rw [cell_of_row _ m (3 + wh) _ _ _ (HK.out.row HM.out.1 id)]; exact HM.out.2.2
    have hnlI : (nl : Int) < 40 := by omega
    have hml : m < w.heap.size := (Array.getElem?_eq_some_iff.1 HM.out.1).1
    have HXm : Hid (X ≠ m) := fun e => by have := HXw.out; omega
    have HXl : Hid (X ≠ bl) := fun e => by have := HXw.out; have := own_lt HO.out bl rfl; omega
    have HBl : Hid (bl ≠ m) := fun e => ownN_ne (by decide) HM.out.1 HO.out (by rw [e]; rfl)
    go_wp2_with fail
    go_at_call 33
    refine (pick_any a 2 _ (by omega) ha1 (by omega) (by omega)).mono ?_
    rintro e w8 ⟨rfl, rfl⟩
    have hww : IntKind.i64.wrap (1 + pickV a 2) = (wh : Int) := by rw [IntKind.wrap_i64, hwh]; omega
    have hwh3 : (wh : Int) < 3 := by omega
    have hwh0 : wh < 3 := by omega
    go_wp2_with fail
    have HH : Hid (W'.drew.cell? ⟨X, 0, none⟩ = some (.slice ao n cap) ∧ W'.drew.cell? ⟨X, 1, none⟩ = some (.int .i64 place) ∧ W'.drew.cell? ⟨X, 2, none⟩ = some (.pointer (q.map fun b => ⟨b, 0, none⟩)) ∧ W'.drew.cell? ⟨X, 3, none⟩ = some (.slice ao' n' cap') ∧ W'.drew.cell? ⟨X, 4, none⟩ = some (.int .i64 place') ∧ W'.drew.cell? ⟨X, 5, none⟩ = some (.int .i64 who) ∧ W'.drew.cell? ⟨m, 3 + wh, none⟩ = some (.pointer (q2.map fun b => ⟨b, 0, none⟩))) := ⟨e0, e1, e2, e3, e4, e5, cw⟩
    refine wp_region_held_drew (S := fun w' => w'.cell? ⟨X, 0, none⟩ = some (.slice ao n cap) ∧ w'.cell? ⟨X, 1, none⟩ = some (.int .i64 place) ∧ w'.cell? ⟨X, 2, none⟩ = some (.pointer (q.map fun b => ⟨b, 0, none⟩)) ∧ w'.cell? ⟨X, 3, none⟩ = some (.slice ao' n' cap') ∧ w'.cell? ⟨X, 4, none⟩ = some (.int .i64 place') ∧ w'.cell? ⟨X, 5, none⟩ = some (.int .i64 who) ∧ w'.cell? ⟨m, 3 + wh, none⟩ = some (.pointer (q2.map fun b => ⟨b, 0, none⟩))) (by kernel_rfl) HH.out (fun hHeld => ?_)
    refine wpAnyH_take (i := 0) (oi := { dst := some 148, op := Go.Op.move (Go.Operand.tmp 0), type := 24, pos := "law.go:277", after := #[], guard := none }) (v := ?v0wb1) rfl (by kernel_rfl) (by kernel_rfl) (by kernel_rfl) (fun _ _ _ h => h) (Or.inl ⟨by rfl, ?y0wb1⟩) (by assumption) ?r0wb1
    case y0wb1 => (intro w hSw; obtain ⟨s0, s1, s2, s3, s4, s5, s6⟩ := hSw; go_simp; (try with_reducible rfl))
    (try simp only [Act.put]); (try simp only [List.setIfInBounds_toArray]); (try simp only [List.set_cons_succ]); (try simp only [List.set_cons_zero])
    refine wpAnyH_take (i := 1) (oi := { dst := some 149, op := Go.Op.move (Go.Operand.tmp 0), type := 24, pos := "law.go:277", after := #[], guard := none }) (v := ?v1wb2) rfl (by kernel_rfl) (by kernel_rfl) (by kernel_rfl) (fun _ _ _ h => h) (Or.inl ⟨by rfl, ?y1wb2⟩) (by assumption) ?r1wb2
    case y1wb2 => (intro w hSw; obtain ⟨s0, s1, s2, s3, s4, s5, s6⟩ := hSw; go_simp; (try with_reducible rfl))
    (try simp only [Act.put]); (try simp only [List.setIfInBounds_toArray]); (try simp only [List.set_cons_succ]); (try simp only [List.set_cons_zero])
    refine wpAnyH_take (i := 2) (oi := { dst := some 150, op := Go.Op.nilCheck (Go.Operand.tmp 149), type := 0, pos := "law.go:277", after := #[{ on := 1, ground := Go.Ground.data }], guard := none }) (v := ?v2wb3) rfl (by kernel_rfl) (by kernel_rfl) (by kernel_rfl) (fun _ _ _ h => h) (Or.inl ⟨by rfl, ?y2wb3⟩) (by assumption) ?r2wb3
    case y2wb3 => (intro w hSw; obtain ⟨s0, s1, s2, s3, s4, s5, s6⟩ := hSw; go_simp; (try with_reducible rfl))
    (try simp only [Act.put]); (try simp only [List.setIfInBounds_toArray]); (try simp only [List.set_cons_succ]); (try simp only [List.set_cons_zero])
    refine wpAnyH_take (i := 3) (oi := { dst := some 151, op := Go.Op.fieldAddr 87 (Go.Operand.tmp 150) 2, type := 0, pos := "law.go:277", after := #[{ on := 2, ground := Go.Ground.data }], guard := none }) (v := ?v3wb4) rfl (by kernel_rfl) (by kernel_rfl) (by kernel_rfl) (fun _ _ _ h => h) (Or.inl ⟨by rfl, ?y3wb4⟩) (by assumption) ?r3wb4
    case y3wb4 => (intro w hSw; obtain ⟨s0, s1, s2, s3, s4, s5, s6⟩ := hSw; go_simp; (try with_reducible rfl))
    (try simp only [Act.put]); (try simp only [List.setIfInBounds_toArray]); (try simp only [List.set_cons_succ]); (try simp only [List.set_cons_zero])
    refine wpAnyH_take (i := 5) (oi := { dst := some 153, op := Go.Op.fieldAddr 93 (Go.Operand.tmp 5) 0, type := 0, pos := "law.go:277", after := #[], guard := none }) (v := ?v5wb5) rfl (by kernel_rfl) (by kernel_rfl) (by kernel_rfl) (fun _ _ _ h => h) (Or.inl ⟨by rfl, ?y5wb5⟩) (by assumption) ?r5wb5
    case y5wb5 => (intro w hSw; obtain ⟨s0, s1, s2, s3, s4, s5, s6⟩ := hSw; go_simp; (try with_reducible rfl))
    (try simp only [Act.put]); (try simp only [List.setIfInBounds_toArray]); (try simp only [List.set_cons_succ]); (try simp only [List.set_cons_zero])
    refine wpAnyH_take (i := 6) (oi := { dst := some 154, op := Go.Op.load 37 (Go.Operand.tmp 153), type := 37, pos := "law.go:277", after := #[{ on := 5, ground := Go.Ground.data }], guard := none }) (v := ?v6wb6) rfl (by kernel_rfl) (by kernel_rfl) (by kernel_rfl) (fun _ _ _ h => h) (Or.inl ⟨by rfl, ?y6wb6⟩) (by assumption) ?r6wb6
    case y6wb6 => (intro w hSw; obtain ⟨s0, s1, s2, s3, s4, s5, s6⟩ := hSw; go_simp; (try with_reducible rfl))
    (try simp only [Act.put]); (try simp only [List.setIfInBounds_toArray]); (try simp only [List.set_cons_succ]); (try simp only [List.set_cons_zero])
    refine wpAnyH_take (i := 7) (oi := { dst := some 155, op := Go.Op.move (Go.Operand.tmp 0), type := 24, pos := "law.go:277", after := #[], guard := none }) (v := ?v7wb7) rfl (by kernel_rfl) (by kernel_rfl) (by kernel_rfl) (fun _ _ _ h => h) (Or.inl ⟨by rfl, ?y7wb7⟩) (by assumption) ?r7wb7
    case y7wb7 => (intro w hSw; obtain ⟨s0, s1, s2, s3, s4, s5, s6⟩ := hSw; go_simp; (try with_reducible rfl))
    (try simp only [Act.put]); (try simp only [List.setIfInBounds_toArray]); (try simp only [List.set_cons_succ]); (try simp only [List.set_cons_zero])
    refine wpAnyH_take (i := 8) (oi := { dst := some 156, op := Go.Op.move (Go.Operand.tmp 14), type := 3, pos := "law.go:277", after := #[], guard := none }) (v := ?v8wb8) rfl (by kernel_rfl) (by kernel_rfl) (by kernel_rfl) (fun _ _ _ h => h) (Or.inl ⟨by rfl, ?y8wb8⟩) (by assumption) ?r8wb8
    case y8wb8 => (intro w hSw; obtain ⟨s0, s1, s2, s3, s4, s5, s6⟩ := hSw; go_simp; (try with_reducible rfl))
    (try simp only [Act.put]); (try simp only [List.setIfInBounds_toArray]); (try simp only [List.set_cons_succ]); (try simp only [List.set_cons_zero])
    refine wpAnyH_take (i := 9) (oi := { dst := some 157, op := Go.Op.nilCheck (Go.Operand.tmp 155), type := 0, pos := "law.go:277", after := #[{ on := 7, ground := Go.Ground.data }], guard := none }) (v := ?v9wb9) rfl (by kernel_rfl) (by kernel_rfl) (by kernel_rfl) (fun _ _ _ h => h) (Or.inl ⟨by rfl, ?y9wb9⟩) (by assumption) ?r9wb9
    case y9wb9 => (intro w hSw; obtain ⟨s0, s1, s2, s3, s4, s5, s6⟩ := hSw; go_simp; (try with_reducible rfl))
    (try simp only [Act.put]); (try simp only [List.setIfInBounds_toArray]); (try simp only [List.set_cons_succ]); (try simp only [List.set_cons_zero])
    refine wpAnyH_take (i := 10) (oi := { dst := some 158, op := Go.Op.fieldAddr 87 (Go.Operand.tmp 157) 3, type := 0, pos := "law.go:277", after := #[{ on := 9, ground := Go.Ground.data }], guard := none }) (v := ?v10wb10) rfl (by kernel_rfl) (by kernel_rfl) (by kernel_rfl) (fun _ _ _ h => h) (Or.inl ⟨by rfl, ?y10wb10⟩) (by assumption) ?r10wb10
    case y10wb10 => (intro w hSw; obtain ⟨s0, s1, s2, s3, s4, s5, s6⟩ := hSw; go_simp; (try with_reducible rfl))
    (try simp only [Act.put]); (try simp only [List.setIfInBounds_toArray]); (try simp only [List.set_cons_succ]); (try simp only [List.set_cons_zero])
    refine wpAnyH_take (i := 11) (oi := { dst := some 159, op := Go.Op.indexAddr 79 (Go.Operand.tmp 158) (Go.Operand.tmp 156), type := 0, pos := "law.go:277", after := #[{ on := 10, ground := Go.Ground.data }, { on := 8, ground := Go.Ground.data }], guard := none }) (v := ?v11wb11) rfl (by kernel_rfl) (by kernel_rfl) (by kernel_rfl) (fun _ _ _ h => h) (Or.inl ⟨by rfl, ?y11wb11⟩) (by assumption) ?r11wb11
    case y11wb11 => (intro w hSw; obtain ⟨s0, s1, s2, s3, s4, s5, s6⟩ := hSw; go_simp; (try with_reducible rfl))
    (try simp only [Act.put]); (try simp only [List.setIfInBounds_toArray]); (try simp only [List.set_cons_succ]); (try simp only [List.set_cons_zero])
    refine wpAnyH_take (i := 12) (oi := { dst := some 160, op := Go.Op.load 34 (Go.Operand.tmp 159), type := 34, pos := "law.go:277", after := #[{ on := 11, ground := Go.Ground.data }], guard := none }) (v := ?v12wb12) rfl (by kernel_rfl) (by kernel_rfl) (by kernel_rfl) (fun _ _ _ h => h) (Or.inl ⟨by rfl, ?y12wb12⟩) (by assumption) ?r12wb12
    case y12wb12 => (intro w hSw; obtain ⟨s0, s1, s2, s3, s4, s5, s6⟩ := hSw; go_simp; (try with_reducible rfl))
    (try simp only [Act.put]); (try simp only [List.setIfInBounds_toArray]); (try simp only [List.set_cons_succ]); (try simp only [List.set_cons_zero])
    refine wpAnyH_take (i := 14) (oi := { dst := some 162, op := Go.Op.fieldAddr 93 (Go.Operand.tmp 5) 1, type := 0, pos := "law.go:277", after := #[], guard := none }) (v := ?v14wb13) rfl (by kernel_rfl) (by kernel_rfl) (by kernel_rfl) (fun _ _ _ h => h) (Or.inl ⟨by rfl, ?y14wb13⟩) (by assumption) ?r14wb13
    case y14wb13 => (intro w hSw; obtain ⟨s0, s1, s2, s3, s4, s5, s6⟩ := hSw; go_simp; (try with_reducible rfl))
    (try simp only [Act.put]); (try simp only [List.setIfInBounds_toArray]); (try simp only [List.set_cons_succ]); (try simp only [List.set_cons_zero])
    refine wpAnyH_take (i := 15) (oi := { dst := some 163, op := Go.Op.load 91 (Go.Operand.tmp 162), type := 91, pos := "law.go:277", after := #[{ on := 14, ground := Go.Ground.data }], guard := none }) (v := ?v15wb14) rfl (by kernel_rfl) (by kernel_rfl) (by kernel_rfl) (fun _ _ _ h => h) (Or.inl ⟨by rfl, ?y15wb14⟩) (by assumption) ?r15wb14
    case y15wb14 => (intro w hSw; obtain ⟨s0, s1, s2, s3, s4, s5, s6⟩ := hSw; go_simp; (try with_reducible rfl))
    (try simp only [Act.put]); (try simp only [List.setIfInBounds_toArray]); (try simp only [List.set_cons_succ]); (try simp only [List.set_cons_zero])
    refine wpAnyH_take (i := 16) (oi := { dst := some 164, op := Go.Op.move (Go.Operand.tmp 14), type := 3, pos := "law.go:277", after := #[], guard := none }) (v := ?v16wb15) rfl (by kernel_rfl) (by kernel_rfl) (by kernel_rfl) (fun _ _ _ h => h) (Or.inl ⟨by rfl, ?y16wb15⟩) (by assumption) ?r16wb15
    case y16wb15 => (intro w hSw; obtain ⟨s0, s1, s2, s3, s4, s5, s6⟩ := hSw; go_simp; (try with_reducible rfl))
    (try simp only [Act.put]); (try simp only [List.setIfInBounds_toArray]); (try simp only [List.set_cons_succ]); (try simp only [List.set_cons_zero])
    refine wpAnyH_ready (rs := [4, 13]) (by kernel_rfl) (by simp) ?_
    refine AllReadyH.cons (o := { dst := some 152, op := Go.Op.load 78 (Go.Operand.tmp 151), type := 78, pos := "law.go:277", after := #[{ on := 3, ground := Go.Ground.data }], guard := none }) rfl (fun Kc hK => ?_) (AllReadyH.cons (o := { dst := some 161, op := Go.Op.call { callee := Go.Callee.value (Go.Operand.func 15), args := #[Go.Operand.tmp 154, Go.Operand.tmp 160], argTypes := #[37, 34] }, type := 37, pos := "law.go:277", after := #[{ on := 6, ground := Go.Ground.data }, { on := 12, ground := Go.Ground.data }], guard := none }) rfl (fun Kc hK => ?_) AllReadyH.nil)
    · go_simp
      refine hK.out _ _ HH.out (fun hHeld => ?_)
      clear hK Kc
      (try simp only [Act.put]); (try simp only [List.setIfInBounds_toArray]); (try simp only [List.set_cons_succ]); (try simp only [List.set_cons_zero])
      refine wpAnyH_ready (rs := [13]) (by kernel_rfl) (by simp) ?_
      refine AllReadyH.cons (o := { dst := some 161, op := Go.Op.call { callee := Go.Callee.value (Go.Operand.func 15), args := #[Go.Operand.tmp 154, Go.Operand.tmp 160], argTypes := #[37, 34] }, type := 37, pos := "law.go:277", after := #[{ on := 6, ground := Go.Ground.data }, { on := 12, ground := Go.Ground.data }], guard := none }) rfl (fun Kc hK => ?_) AllReadyH.nil
      go_simp
      go_at_call 15
      refine Calls.mono (watched_any ao n cap place q q2 _) ?_
      rintro e w9 ⟨rfl, hk9⟩
      have HK9 : Hid (Keeps w w9 (fun _ => False)) := HK.out.drew.trans hk9 fun _ _ e => e
      have HH9 : Hid (w9.cell? ⟨X, 0, none⟩ = some (.slice ao n cap) ∧ w9.cell? ⟨X, 1, none⟩ = some (.int .i64 place) ∧ w9.cell? ⟨X, 2, none⟩ = some (.pointer (q.map fun b => ⟨b, 0, none⟩)) ∧ w9.cell? ⟨X, 3, none⟩ = some (.slice ao' n' cap') ∧ w9.cell? ⟨X, 4, none⟩ = some (.int .i64 place') ∧ w9.cell? ⟨X, 5, none⟩ = some (.int .i64 who) ∧ w9.cell? ⟨m, 3 + wh, none⟩ = some (.pointer (q2.map fun b => ⟨b, 0, none⟩))) := ⟨hk9.cell' e0 id, hk9.cell' e1 id, hk9.cell' e2 id, hk9.cell' e3 id, hk9.cell' e4 id, hk9.cell' e5 id, hk9.cell' cw id⟩
      have c29 : w9.cell? ⟨m, 2, none⟩ = some (.slice (some ⟨bl, 0, none⟩) nl cl) := hk9.cell' c2 id
      obtain ⟨V6, hV6⟩ : ∃ V6, w9.alloc (.cells #[.slice ao n cap, .int .i64 place, .pointer (q2.map fun b => ⟨b, 0, none⟩), .slice ao' n' cap', .int .i64 place', .int .i64 (wh : Int)] 93) = V6 := ⟨_, rfl⟩
      have hk6 : Keeps w9 V6 (fun _ => False) := by rw [← hV6]; exact (Keeps.refl _ _).alloc _
      have HK6 : Hid (Keeps w V6 (fun _ => False)) := HK9.out.trans hk6 fun _ _ e => e
      have HH6 : Hid (V6.cell? ⟨X, 0, none⟩ = some (.slice ao n cap) ∧ V6.cell? ⟨X, 1, none⟩ = some (.int .i64 place) ∧ V6.cell? ⟨X, 2, none⟩ = some (.pointer (q.map fun b => ⟨b, 0, none⟩)) ∧ V6.cell? ⟨X, 3, none⟩ = some (.slice ao' n' cap') ∧ V6.cell? ⟨X, 4, none⟩ = some (.int .i64 place') ∧ V6.cell? ⟨X, 5, none⟩ = some (.int .i64 who) ∧ V6.cell? ⟨m, 3 + wh, none⟩ = some (.pointer (q2.map fun b => ⟨b, 0, none⟩))) := ⟨hk6.cell' HH9.out.1 id, hk6.cell' HH9.out.2.1 id, hk6.cell' HH9.out.2.2.1 id, hk6.cell' HH9.out.2.2.2.1 id, hk6.cell' HH9.out.2.2.2.2.1 id, hk6.cell' HH9.out.2.2.2.2.2.1 id, hk6.cell' HH9.out.2.2.2.2.2.2 id⟩
      have c26 : V6.cell? ⟨m, 2, none⟩ = some (.slice (some ⟨bl, 0, none⟩) nl cl) := hk6.cell' c29 id
      have HOv : Hid (V6.ownsRow 0 93 6 (.slice (some ⟨bl, 0, none⟩) nl cl) nl xs) := ownN_kept HO.out HK6.out fun _ _ => id
      have HSv : Hid (Src Try.prog 6 78 (.slice (some ⟨w9.heap.size, 0, none⟩) 1 1) 1 [.slice ao n cap, .int .i64 place, .pointer (q2.map fun b => ⟨b, 0, none⟩), .slice ao' n' cap', .int .i64 place', .int .i64 (wh : Int)] V6) := by rw [← hV6]; exact src6 w9 _ _ _ _ _ _ (by simp [Value.oneCell'])
      have HGr : Hid (∀ (w7 : World) (uo : Option Addr) (uc : Nat), w7.ownsRow 0 93 6 (.slice uo (nl + 1) uc) (nl + 1) (xs ++ [.slice ao n cap, .int .i64 place, .pointer (q2.map fun b => ⟨b, 0, none⟩), .slice ao' n' cap', .int .i64 place', .int .i64 (wh : Int)]) → V6.grownBy w7 (Value.slice (some ⟨bl, 0, none⟩) nl cl).ownBlock → ((Value.slice uo (nl + 1) uc).ownBlock = (Value.slice (some ⟨bl, 0, none⟩) nl cl).ownBlock ∨ ∀ g', (Value.slice uo (nl + 1) uc).ownBlock = some g' → V6.heap.size ≤ g') → w7.cell? ⟨m, 2, none⟩ = some (.slice (some ⟨bl, 0, none⟩) nl cl) ∧ w7.frozen? ⟨m, 2, none⟩ = false ∧ RowDone w (w7.setCell ⟨m, 2, none⟩ (.slice uo (nl + 1) uc)) m 2 93 6 cs (.slice (some ⟨bl, 0, none⟩) nl cl) (nl + 1) (xs ++ [.slice ao n cap, .int .i64 place, .pointer (q2.map fun b => ⟨b, 0, none⟩), .slice ao' n' cap', .int .i64 place', .int .i64 (wh : Int)])) := fun w7 uo uc a1 a2 a3 => RowDone.grown (off := 2) (by decide) HK6.out HM.out.1 HM.out.2.1 (fun g' e e2 => absurd (e2 ▸ e) (ownN_ne (by decide) HM.out.1 HO.out)) a1 a2 a3
      have hX6 : ∀ w7 : World, V6.grownBy w7 (Value.slice (some ⟨bl, 0, none⟩) nl cl).ownBlock → ∀ j v, V6.cell? ⟨X, j, none⟩ = some v → w7.cell? ⟨X, j, none⟩ = some v := fun w7 hg j v h => (Keeps.ofGrown hg).cell' h fun e => HXl.out (by simp [Value.ownBlock] at e; exact e.symm)
      have HHg : Hid (∀ w7 : World, V6.grownBy w7 (Value.slice (some ⟨bl, 0, none⟩) nl cl).ownBlock → w7.cell? ⟨X, 0, none⟩ = some (.slice ao n cap) ∧ w7.cell? ⟨X, 1, none⟩ = some (.int .i64 place) ∧ w7.cell? ⟨X, 2, none⟩ = some (.pointer (q.map fun b => ⟨b, 0, none⟩)) ∧ w7.cell? ⟨X, 3, none⟩ = some (.slice ao' n' cap') ∧ w7.cell? ⟨X, 4, none⟩ = some (.int .i64 place') ∧ w7.cell? ⟨X, 5, none⟩ = some (.int .i64 who) ∧ w7.cell? ⟨m, 3 + wh, none⟩ = some (.pointer (q2.map fun b => ⟨b, 0, none⟩))) := fun w7 hg => ⟨hX6 w7 hg _ _ HH6.out.1, hX6 w7 hg _ _ HH6.out.2.1, hX6 w7 hg _ _ HH6.out.2.2.1, hX6 w7 hg _ _ HH6.out.2.2.2.1, hX6 w7 hg _ _ HH6.out.2.2.2.2.1, hX6 w7 hg _ _ HH6.out.2.2.2.2.2.1, (Keeps.ofGrown hg).cell' HH6.out.2.2.2.2.2.2 fun e => HBl.out (by simp [Value.ownBlock] at e; exact e)⟩
      have HHs : Hid (∀ w7 : World, (w7.cell? ⟨X, 0, none⟩ = some (.slice ao n cap) ∧ w7.cell? ⟨X, 1, none⟩ = some (.int .i64 place) ∧ w7.cell? ⟨X, 2, none⟩ = some (.pointer (q.map fun b => ⟨b, 0, none⟩)) ∧ w7.cell? ⟨X, 3, none⟩ = some (.slice ao' n' cap') ∧ w7.cell? ⟨X, 4, none⟩ = some (.int .i64 place') ∧ w7.cell? ⟨X, 5, none⟩ = some (.int .i64 who) ∧ w7.cell? ⟨m, 3 + wh, none⟩ = some (.pointer (q2.map fun b => ⟨b, 0, none⟩))) → ∀ v, RowDone w (w7.setCell ⟨m, 2, none⟩ v) m 2 93 6 cs (.slice (some ⟨bl, 0, none⟩) nl cl) (nl + 1) (xs ++ [.slice ao n cap, .int .i64 place, .pointer (q2.map fun b => ⟨b, 0, none⟩), .slice ao' n' cap', .int .i64 place', .int .i64 (wh : Int)]) → (w7.setCell ⟨m, 2, none⟩ v).cell? ⟨X, 0, none⟩ = some (.slice ao n cap) ∧ (w7.setCell ⟨m, 2, none⟩ v).cell? ⟨X, 1, none⟩ = some (.int .i64 place) ∧ (w7.setCell ⟨m, 2, none⟩ v).cell? ⟨X, 2, none⟩ = some (.pointer (q.map fun b => ⟨b, 0, none⟩)) ∧ (w7.setCell ⟨m, 2, none⟩ v).cell? ⟨X, 3, none⟩ = some (.slice ao' n' cap') ∧ (w7.setCell ⟨m, 2, none⟩ v).cell? ⟨X, 4, none⟩ = some (.int .i64 place') ∧ (w7.setCell ⟨m, 2, none⟩ v).cell? ⟨X, 5, none⟩ = some (.int .i64 who) ∧ (w7.setCell ⟨m, 2, none⟩ v).cell? ⟨m, 3 + wh, none⟩ = some (.pointer (q2.map fun b => ⟨b, 0, none⟩))) := fun w7 h7 v rd => by
        obtain ⟨q0, q1, q2', q3, q4, q5, q6⟩ := h7
        have far : ∀ j u, w7.cell? ⟨X, j, none⟩ = some u → (w7.setCell ⟨m, 2, none⟩ v).cell? ⟨X, j, none⟩ = some u := fun j u hu => (cell_setCell_far w7 (fun e => HXm.out e.symm) v 2 j).trans hu
        obtain ⟨v'', r1, -⟩ := rd
        refine ⟨far _ _ q0, far _ _ q1, far _ _ q2', far _ _ q3, far _ _ q4, far _ _ q5, ?_⟩
        rw [cell_of_row _ m (3 + wh) _ _ _ r1, Array.getElem?_setIfInBounds_ne (by omega)]
        exact HM.out.2.2
      clear hk9 hk6 hX6
      unfold viewV
      go_wp2_with fail
      refine hK.out _ _ HH9.out (fun hHeld => ?_)
      clear hK Kc
      (try simp only [Act.put]); (try simp only [List.setIfInBounds_toArray]); (try simp only [List.set_cons_succ]); (try simp only [List.set_cons_zero])
      refine wpAnyH_take (i := 17) (oi := { dst := some 165, op := Go.Op.build 93 #[(0, Go.Operand.tmp 161), (1, Go.Operand.tmp 163), (2, Go.Operand.tmp 164)], type := 93, pos := "law.go:277", after := #[{ on := 13, ground := Go.Ground.data }, { on := 15, ground := Go.Ground.data }, { on := 16, ground := Go.Ground.data }], guard := none }) (v := ?v17xb1) rfl (by kernel_rfl) (by kernel_rfl) (by kernel_rfl) (fun _ _ _ h => h) (Or.inl ⟨by rfl, ?y17xb1⟩) (by assumption) ?r17xb1
      case y17xb1 => (intro w hSw; obtain ⟨s0, s1, s2, s3, s4, s5, s6⟩ := hSw; go_simp; (try with_reducible rfl))
      (try simp only [Act.put]); (try simp only [List.setIfInBounds_toArray]); (try simp only [List.set_cons_succ]); (try simp only [List.set_cons_zero])
      refine wpAnyH_ready (rs := [18]) (by kernel_rfl) (by simp) ?_
      refine AllReadyH.cons (o := { dst := some 166, op := Go.Op.buildSlice 78 1 #[(0, Go.Operand.tmp 165)], type := 78, pos := "law.go:277", after := #[{ on := 17, ground := Go.Ground.data }], guard := none }) rfl (fun Kc hK => ?_) AllReadyH.nil
      go_simp
      refine hK.out _ _ (HH6.out) (fun hHeld => ?_)
      clear hK Kc
      (try simp only [Act.put]); (try simp only [List.setIfInBounds_toArray]); (try simp only [List.set_cons_succ]); (try simp only [List.set_cons_zero])
      refine wpAnyH_ready (rs := [19]) (by kernel_rfl) (by simp) ?_
      refine AllReadyH.cons (o := { dst := some 167, op := Go.Op.call { callee := Go.Callee.builtin Go.Builtin.append, args := #[Go.Operand.tmp 152, Go.Operand.tmp 166], argTypes := #[78, 78] }, type := 78, pos := "law.go:277", after := #[{ on := 4, ground := Go.Ground.data }, { on := 18, ground := Go.Ground.data }, { on := 13, ground := Go.Ground.chain }], guard := none }) rfl (fun Kc hK => ?_) AllReadyH.nil
      refine step_append_anyN (P := Try.prog) _ rfl (.tmp 152) (.tmp 166) 78 78 rfl 93 (.agg #[.slice none 0 0, .int .i64 0, .pointer none, .slice none 0 0, .int .i64 0, .int .i64 0]) 6 80 Try.underlying78 info93 rfl (.slice (some ⟨bl, 0, none⟩) nl cl) nl xs rfl HOv.out (.slice (some ⟨w9.heap.size, 0, none⟩) 1 1) 1 [.slice ao n cap, .int .i64 place, .pointer (q2.map fun b => ⟨b, 0, none⟩), .slice ao' n' cap', .int .i64 place', .int .i64 (wh : Int)] rfl HSv.out (by omega) (by omega) ?_
      intro v' w7 ha1' ha2' ha3'
      obtain ⟨uo, uc, rfl⟩ := ownN_form ha1'
      obtain ⟨p1, p2, hrd⟩ := HGr.out w7 uo uc ha1' ha2' ha3'
      have HRD := hidM hrd
      have HH7 := hidM (HHg.out w7 ha2')
      have HH8 := hidM (HHs.out w7 HH7.out (.slice uo (nl + 1) uc) hrd)
      clear ha1' ha2' ha3' hrd
      refine hK.out _ _ HH7.out (fun hHeld => ?_)
      clear hK Kc
      (try simp only [Act.put]); (try simp only [List.setIfInBounds_toArray]); (try simp only [List.set_cons_succ]); (try simp only [List.set_cons_zero])
      refine wpAnyH_take (i := 20) (oi := { dst := some 168, op := Go.Op.nilCheck (Go.Operand.tmp 148), type := 0, pos := "law.go:277", after := #[{ on := 0, ground := Go.Ground.data }, { on := 0, ground := Go.Ground.phase }, { on := 1, ground := Go.Ground.phase }, { on := 2, ground := Go.Ground.phase }, { on := 3, ground := Go.Ground.phase }, { on := 4, ground := Go.Ground.phase }, { on := 5, ground := Go.Ground.phase }, { on := 6, ground := Go.Ground.phase }, { on := 7, ground := Go.Ground.phase }, { on := 8, ground := Go.Ground.phase }, { on := 9, ground := Go.Ground.phase }, { on := 10, ground := Go.Ground.phase }, { on := 11, ground := Go.Ground.phase }, { on := 12, ground := Go.Ground.phase }, { on := 13, ground := Go.Ground.phase }, { on := 14, ground := Go.Ground.phase }, { on := 15, ground := Go.Ground.phase }, { on := 16, ground := Go.Ground.phase }, { on := 17, ground := Go.Ground.phase }, { on := 18, ground := Go.Ground.phase }, { on := 19, ground := Go.Ground.phase }], guard := none }) (v := ?v20yb1) rfl (by kernel_rfl) (by kernel_rfl) (by kernel_rfl) (fun _ _ _ h => h) (Or.inl ⟨by rfl, ?y20yb1⟩) (by assumption) ?r20yb1
      case y20yb1 => (intro w hSw; obtain ⟨s0, s1, s2, s3, s4, s5, s6⟩ := hSw; go_simp; (try with_reducible rfl))
      (try simp only [Act.put]); (try simp only [List.setIfInBounds_toArray]); (try simp only [List.set_cons_succ]); (try simp only [List.set_cons_zero])
      refine wpAnyH_take (i := 21) (oi := { dst := some 169, op := Go.Op.fieldAddr 87 (Go.Operand.tmp 168) 2, type := 0, pos := "law.go:277", after := #[{ on := 20, ground := Go.Ground.data }, { on := 0, ground := Go.Ground.phase }, { on := 1, ground := Go.Ground.phase }, { on := 2, ground := Go.Ground.phase }, { on := 3, ground := Go.Ground.phase }, { on := 4, ground := Go.Ground.phase }, { on := 5, ground := Go.Ground.phase }, { on := 6, ground := Go.Ground.phase }, { on := 7, ground := Go.Ground.phase }, { on := 8, ground := Go.Ground.phase }, { on := 9, ground := Go.Ground.phase }, { on := 10, ground := Go.Ground.phase }, { on := 11, ground := Go.Ground.phase }, { on := 12, ground := Go.Ground.phase }, { on := 13, ground := Go.Ground.phase }, { on := 14, ground := Go.Ground.phase }, { on := 15, ground := Go.Ground.phase }, { on := 16, ground := Go.Ground.phase }, { on := 17, ground := Go.Ground.phase }, { on := 18, ground := Go.Ground.phase }, { on := 19, ground := Go.Ground.phase }], guard := none }) (v := ?v21yb2) rfl (by kernel_rfl) (by kernel_rfl) (by kernel_rfl) (fun _ _ _ h => h) (Or.inl ⟨by rfl, ?y21yb2⟩) (by assumption) ?r21yb2
      case y21yb2 => (intro w hSw; obtain ⟨s0, s1, s2, s3, s4, s5, s6⟩ := hSw; go_simp; (try with_reducible rfl))
      (try simp only [Act.put]); (try simp only [List.setIfInBounds_toArray]); (try simp only [List.set_cons_succ]); (try simp only [List.set_cons_zero])
      refine wpAnyH_ready (rs := [22]) (by kernel_rfl) (by simp) ?_
      refine AllReadyH.cons (o := { dst := none, op := Go.Op.store 78 (Go.Operand.tmp 169) (Go.Operand.tmp 167), type := 0, pos := "law.go:277", after := #[{ on := 21, ground := Go.Ground.data }, { on := 19, ground := Go.Ground.data }, { on := 19, ground := Go.Ground.chain }, { on := 0, ground := Go.Ground.phase }, { on := 1, ground := Go.Ground.phase }, { on := 2, ground := Go.Ground.phase }, { on := 3, ground := Go.Ground.phase }, { on := 4, ground := Go.Ground.phase }, { on := 5, ground := Go.Ground.phase }, { on := 6, ground := Go.Ground.phase }, { on := 7, ground := Go.Ground.phase }, { on := 8, ground := Go.Ground.phase }, { on := 9, ground := Go.Ground.phase }, { on := 10, ground := Go.Ground.phase }, { on := 11, ground := Go.Ground.phase }, { on := 12, ground := Go.Ground.phase }, { on := 13, ground := Go.Ground.phase }, { on := 14, ground := Go.Ground.phase }, { on := 15, ground := Go.Ground.phase }, { on := 16, ground := Go.Ground.phase }, { on := 17, ground := Go.Ground.phase }, { on := 18, ground := Go.Ground.phase }, { on := 19, ground := Go.Ground.phase }], guard := none }) rfl (fun Kc hK => ?_) AllReadyH.nil
      go_simp
      refine hK.out _ _ HH8.out (fun hHeld => ?_)
      clear hK Kc
      (try simp only [Act.put]); (try simp only [List.setIfInBounds_toArray]); (try simp only [List.set_cons_succ]); (try simp only [List.set_cons_zero])
      refine wpAnyH_done (by kernel_rfl) ?_ _
      clear hHeld
      go_wp2_with fail
      go_ret
      exact ⟨rfl, HRD.out⟩
    · go_simp
      go_at_call 15
      refine Calls.mono (watched_any ao n cap place q q2 _) ?_
      rintro e w9 ⟨rfl, hk9⟩
      have HK9 : Hid (Keeps w w9 (fun _ => False)) := HK.out.drew.trans hk9 fun _ _ e => e
      have HH9 : Hid (w9.cell? ⟨X, 0, none⟩ = some (.slice ao n cap) ∧ w9.cell? ⟨X, 1, none⟩ = some (.int .i64 place) ∧ w9.cell? ⟨X, 2, none⟩ = some (.pointer (q.map fun b => ⟨b, 0, none⟩)) ∧ w9.cell? ⟨X, 3, none⟩ = some (.slice ao' n' cap') ∧ w9.cell? ⟨X, 4, none⟩ = some (.int .i64 place') ∧ w9.cell? ⟨X, 5, none⟩ = some (.int .i64 who) ∧ w9.cell? ⟨m, 3 + wh, none⟩ = some (.pointer (q2.map fun b => ⟨b, 0, none⟩))) := ⟨hk9.cell' e0 id, hk9.cell' e1 id, hk9.cell' e2 id, hk9.cell' e3 id, hk9.cell' e4 id, hk9.cell' e5 id, hk9.cell' cw id⟩
      have c29 : w9.cell? ⟨m, 2, none⟩ = some (.slice (some ⟨bl, 0, none⟩) nl cl) := hk9.cell' c2 id
      obtain ⟨V6, hV6⟩ : ∃ V6, w9.alloc (.cells #[.slice ao n cap, .int .i64 place, .pointer (q2.map fun b => ⟨b, 0, none⟩), .slice ao' n' cap', .int .i64 place', .int .i64 (wh : Int)] 93) = V6 := ⟨_, rfl⟩
      have hk6 : Keeps w9 V6 (fun _ => False) := by rw [← hV6]; exact (Keeps.refl _ _).alloc _
      have HK6 : Hid (Keeps w V6 (fun _ => False)) := HK9.out.trans hk6 fun _ _ e => e
      have HH6 : Hid (V6.cell? ⟨X, 0, none⟩ = some (.slice ao n cap) ∧ V6.cell? ⟨X, 1, none⟩ = some (.int .i64 place) ∧ V6.cell? ⟨X, 2, none⟩ = some (.pointer (q.map fun b => ⟨b, 0, none⟩)) ∧ V6.cell? ⟨X, 3, none⟩ = some (.slice ao' n' cap') ∧ V6.cell? ⟨X, 4, none⟩ = some (.int .i64 place') ∧ V6.cell? ⟨X, 5, none⟩ = some (.int .i64 who) ∧ V6.cell? ⟨m, 3 + wh, none⟩ = some (.pointer (q2.map fun b => ⟨b, 0, none⟩))) := ⟨hk6.cell' HH9.out.1 id, hk6.cell' HH9.out.2.1 id, hk6.cell' HH9.out.2.2.1 id, hk6.cell' HH9.out.2.2.2.1 id, hk6.cell' HH9.out.2.2.2.2.1 id, hk6.cell' HH9.out.2.2.2.2.2.1 id, hk6.cell' HH9.out.2.2.2.2.2.2 id⟩
      have c26 : V6.cell? ⟨m, 2, none⟩ = some (.slice (some ⟨bl, 0, none⟩) nl cl) := hk6.cell' c29 id
      have HOv : Hid (V6.ownsRow 0 93 6 (.slice (some ⟨bl, 0, none⟩) nl cl) nl xs) := ownN_kept HO.out HK6.out fun _ _ => id
      have HSv : Hid (Src Try.prog 6 78 (.slice (some ⟨w9.heap.size, 0, none⟩) 1 1) 1 [.slice ao n cap, .int .i64 place, .pointer (q2.map fun b => ⟨b, 0, none⟩), .slice ao' n' cap', .int .i64 place', .int .i64 (wh : Int)] V6) := by rw [← hV6]; exact src6 w9 _ _ _ _ _ _ (by simp [Value.oneCell'])
      have HGr : Hid (∀ (w7 : World) (uo : Option Addr) (uc : Nat), w7.ownsRow 0 93 6 (.slice uo (nl + 1) uc) (nl + 1) (xs ++ [.slice ao n cap, .int .i64 place, .pointer (q2.map fun b => ⟨b, 0, none⟩), .slice ao' n' cap', .int .i64 place', .int .i64 (wh : Int)]) → V6.grownBy w7 (Value.slice (some ⟨bl, 0, none⟩) nl cl).ownBlock → ((Value.slice uo (nl + 1) uc).ownBlock = (Value.slice (some ⟨bl, 0, none⟩) nl cl).ownBlock ∨ ∀ g', (Value.slice uo (nl + 1) uc).ownBlock = some g' → V6.heap.size ≤ g') → w7.cell? ⟨m, 2, none⟩ = some (.slice (some ⟨bl, 0, none⟩) nl cl) ∧ w7.frozen? ⟨m, 2, none⟩ = false ∧ RowDone w (w7.setCell ⟨m, 2, none⟩ (.slice uo (nl + 1) uc)) m 2 93 6 cs (.slice (some ⟨bl, 0, none⟩) nl cl) (nl + 1) (xs ++ [.slice ao n cap, .int .i64 place, .pointer (q2.map fun b => ⟨b, 0, none⟩), .slice ao' n' cap', .int .i64 place', .int .i64 (wh : Int)])) := fun w7 uo uc a1 a2 a3 => RowDone.grown (off := 2) (by decide) HK6.out HM.out.1 HM.out.2.1 (fun g' e e2 => absurd (e2 ▸ e) (ownN_ne (by decide) HM.out.1 HO.out)) a1 a2 a3
      have hX6 : ∀ w7 : World, V6.grownBy w7 (Value.slice (some ⟨bl, 0, none⟩) nl cl).ownBlock → ∀ j v, V6.cell? ⟨X, j, none⟩ = some v → w7.cell? ⟨X, j, none⟩ = some v := fun w7 hg j v h => (Keeps.ofGrown hg).cell' h fun e => HXl.out (by simp [Value.ownBlock] at e; exact e.symm)
      have HHg : Hid (∀ w7 : World, V6.grownBy w7 (Value.slice (some ⟨bl, 0, none⟩) nl cl).ownBlock → w7.cell? ⟨X, 0, none⟩ = some (.slice ao n cap) ∧ w7.cell? ⟨X, 1, none⟩ = some (.int .i64 place) ∧ w7.cell? ⟨X, 2, none⟩ = some (.pointer (q.map fun b => ⟨b, 0, none⟩)) ∧ w7.cell? ⟨X, 3, none⟩ = some (.slice ao' n' cap') ∧ w7.cell? ⟨X, 4, none⟩ = some (.int .i64 place') ∧ w7.cell? ⟨X, 5, none⟩ = some (.int .i64 who) ∧ w7.cell? ⟨m, 3 + wh, none⟩ = some (.pointer (q2.map fun b => ⟨b, 0, none⟩))) := fun w7 hg => ⟨hX6 w7 hg _ _ HH6.out.1, hX6 w7 hg _ _ HH6.out.2.1, hX6 w7 hg _ _ HH6.out.2.2.1, hX6 w7 hg _ _ HH6.out.2.2.2.1, hX6 w7 hg _ _ HH6.out.2.2.2.2.1, hX6 w7 hg _ _ HH6.out.2.2.2.2.2.1, (Keeps.ofGrown hg).cell' HH6.out.2.2.2.2.2.2 fun e => HBl.out (by simp [Value.ownBlock] at e; exact e)⟩
      have HHs : Hid (∀ w7 : World, (w7.cell? ⟨X, 0, none⟩ = some (.slice ao n cap) ∧ w7.cell? ⟨X, 1, none⟩ = some (.int .i64 place) ∧ w7.cell? ⟨X, 2, none⟩ = some (.pointer (q.map fun b => ⟨b, 0, none⟩)) ∧ w7.cell? ⟨X, 3, none⟩ = some (.slice ao' n' cap') ∧ w7.cell? ⟨X, 4, none⟩ = some (.int .i64 place') ∧ w7.cell? ⟨X, 5, none⟩ = some (.int .i64 who) ∧ w7.cell? ⟨m, 3 + wh, none⟩ = some (.pointer (q2.map fun b => ⟨b, 0, none⟩))) → ∀ v, RowDone w (w7.setCell ⟨m, 2, none⟩ v) m 2 93 6 cs (.slice (some ⟨bl, 0, none⟩) nl cl) (nl + 1) (xs ++ [.slice ao n cap, .int .i64 place, .pointer (q2.map fun b => ⟨b, 0, none⟩), .slice ao' n' cap', .int .i64 place', .int .i64 (wh : Int)]) → (w7.setCell ⟨m, 2, none⟩ v).cell? ⟨X, 0, none⟩ = some (.slice ao n cap) ∧ (w7.setCell ⟨m, 2, none⟩ v).cell? ⟨X, 1, none⟩ = some (.int .i64 place) ∧ (w7.setCell ⟨m, 2, none⟩ v).cell? ⟨X, 2, none⟩ = some (.pointer (q.map fun b => ⟨b, 0, none⟩)) ∧ (w7.setCell ⟨m, 2, none⟩ v).cell? ⟨X, 3, none⟩ = some (.slice ao' n' cap') ∧ (w7.setCell ⟨m, 2, none⟩ v).cell? ⟨X, 4, none⟩ = some (.int .i64 place') ∧ (w7.setCell ⟨m, 2, none⟩ v).cell? ⟨X, 5, none⟩ = some (.int .i64 who) ∧ (w7.setCell ⟨m, 2, none⟩ v).cell? ⟨m, 3 + wh, none⟩ = some (.pointer (q2.map fun b => ⟨b, 0, none⟩))) := fun w7 h7 v rd => by
        obtain ⟨q0, q1, q2', q3, q4, q5, q6⟩ := h7
        have far : ∀ j u, w7.cell? ⟨X, j, none⟩ = some u → (w7.setCell ⟨m, 2, none⟩ v).cell? ⟨X, j, none⟩ = some u := fun j u hu => (cell_setCell_far w7 (fun e => HXm.out e.symm) v 2 j).trans hu
        obtain ⟨v'', r1, -⟩ := rd
        refine ⟨far _ _ q0, far _ _ q1, far _ _ q2', far _ _ q3, far _ _ q4, far _ _ q5, ?_⟩
        rw [cell_of_row _ m (3 + wh) _ _ _ r1, Array.getElem?_setIfInBounds_ne (by omega)]
        exact HM.out.2.2
      clear hk9 hk6 hX6
      unfold viewV
      go_wp2_with fail
      refine hK.out _ _ HH9.out (fun hHeld => ?_)
      clear hK Kc
      (try simp only [Act.put]); (try simp only [List.setIfInBounds_toArray]); (try simp only [List.set_cons_succ]); (try simp only [List.set_cons_zero])
      refine wpAnyH_take (i := 17) (oi := { dst := some 165, op := Go.Op.build 93 #[(0, Go.Operand.tmp 161), (1, Go.Operand.tmp 163), (2, Go.Operand.tmp 164)], type := 93, pos := "law.go:277", after := #[{ on := 13, ground := Go.Ground.data }, { on := 15, ground := Go.Ground.data }, { on := 16, ground := Go.Ground.data }], guard := none }) (v := ?v17zb1) rfl (by kernel_rfl) (by kernel_rfl) (by kernel_rfl) (fun _ _ _ h => h) (Or.inl ⟨by rfl, ?y17zb1⟩) (by assumption) ?r17zb1
      case y17zb1 => (intro w hSw; obtain ⟨s0, s1, s2, s3, s4, s5, s6⟩ := hSw; go_simp; (try with_reducible rfl))
      (try simp only [Act.put]); (try simp only [List.setIfInBounds_toArray]); (try simp only [List.set_cons_succ]); (try simp only [List.set_cons_zero])
      refine wpAnyH_ready (rs := [4, 18]) (by kernel_rfl) (by simp) ?_
      refine AllReadyH.cons (o := { dst := some 152, op := Go.Op.load 78 (Go.Operand.tmp 151), type := 78, pos := "law.go:277", after := #[{ on := 3, ground := Go.Ground.data }], guard := none }) rfl (fun Kc hK => ?_) (AllReadyH.cons (o := { dst := some 166, op := Go.Op.buildSlice 78 1 #[(0, Go.Operand.tmp 165)], type := 78, pos := "law.go:277", after := #[{ on := 17, ground := Go.Ground.data }], guard := none }) rfl (fun Kc hK => ?_) AllReadyH.nil)
      · go_simp
        refine hK.out _ _ HH9.out (fun hHeld => ?_)
        clear hK Kc
        (try simp only [Act.put]); (try simp only [List.setIfInBounds_toArray]); (try simp only [List.set_cons_succ]); (try simp only [List.set_cons_zero])
        refine wpAnyH_ready (rs := [18]) (by kernel_rfl) (by simp) ?_
        refine AllReadyH.cons (o := { dst := some 166, op := Go.Op.buildSlice 78 1 #[(0, Go.Operand.tmp 165)], type := 78, pos := "law.go:277", after := #[{ on := 17, ground := Go.Ground.data }], guard := none }) rfl (fun Kc hK => ?_) AllReadyH.nil
        go_simp
        refine hK.out _ _ (HH6.out) (fun hHeld => ?_)
        clear hK Kc
        (try simp only [Act.put]); (try simp only [List.setIfInBounds_toArray]); (try simp only [List.set_cons_succ]); (try simp only [List.set_cons_zero])
        refine wpAnyH_ready (rs := [19]) (by kernel_rfl) (by simp) ?_
        refine AllReadyH.cons (o := { dst := some 167, op := Go.Op.call { callee := Go.Callee.builtin Go.Builtin.append, args := #[Go.Operand.tmp 152, Go.Operand.tmp 166], argTypes := #[78, 78] }, type := 78, pos := "law.go:277", after := #[{ on := 4, ground := Go.Ground.data }, { on := 18, ground := Go.Ground.data }, { on := 13, ground := Go.Ground.chain }], guard := none }) rfl (fun Kc hK => ?_) AllReadyH.nil
        refine step_append_anyN (P := Try.prog) _ rfl (.tmp 152) (.tmp 166) 78 78 rfl 93 (.agg #[.slice none 0 0, .int .i64 0, .pointer none, .slice none 0 0, .int .i64 0, .int .i64 0]) 6 80 Try.underlying78 info93 rfl (.slice (some ⟨bl, 0, none⟩) nl cl) nl xs rfl HOv.out (.slice (some ⟨w9.heap.size, 0, none⟩) 1 1) 1 [.slice ao n cap, .int .i64 place, .pointer (q2.map fun b => ⟨b, 0, none⟩), .slice ao' n' cap', .int .i64 place', .int .i64 (wh : Int)] rfl HSv.out (by omega) (by omega) ?_
        intro v' w7 ha1' ha2' ha3'
        obtain ⟨uo, uc, rfl⟩ := ownN_form ha1'
        obtain ⟨p1, p2, hrd⟩ := HGr.out w7 uo uc ha1' ha2' ha3'
        have HRD := hidM hrd
        have HH7 := hidM (HHg.out w7 ha2')
        have HH8 := hidM (HHs.out w7 HH7.out (.slice uo (nl + 1) uc) hrd)
        clear ha1' ha2' ha3' hrd
        refine hK.out _ _ HH7.out (fun hHeld => ?_)
        clear hK Kc
        (try simp only [Act.put]); (try simp only [List.setIfInBounds_toArray]); (try simp only [List.set_cons_succ]); (try simp only [List.set_cons_zero])
        refine wpAnyH_take (i := 20) (oi := { dst := some 168, op := Go.Op.nilCheck (Go.Operand.tmp 148), type := 0, pos := "law.go:277", after := #[{ on := 0, ground := Go.Ground.data }, { on := 0, ground := Go.Ground.phase }, { on := 1, ground := Go.Ground.phase }, { on := 2, ground := Go.Ground.phase }, { on := 3, ground := Go.Ground.phase }, { on := 4, ground := Go.Ground.phase }, { on := 5, ground := Go.Ground.phase }, { on := 6, ground := Go.Ground.phase }, { on := 7, ground := Go.Ground.phase }, { on := 8, ground := Go.Ground.phase }, { on := 9, ground := Go.Ground.phase }, { on := 10, ground := Go.Ground.phase }, { on := 11, ground := Go.Ground.phase }, { on := 12, ground := Go.Ground.phase }, { on := 13, ground := Go.Ground.phase }, { on := 14, ground := Go.Ground.phase }, { on := 15, ground := Go.Ground.phase }, { on := 16, ground := Go.Ground.phase }, { on := 17, ground := Go.Ground.phase }, { on := 18, ground := Go.Ground.phase }, { on := 19, ground := Go.Ground.phase }], guard := none }) (v := ?v20ub1) rfl (by kernel_rfl) (by kernel_rfl) (by kernel_rfl) (fun _ _ _ h => h) (Or.inl ⟨by rfl, ?y20ub1⟩) (by assumption) ?r20ub1
        case y20ub1 => (intro w hSw; obtain ⟨s0, s1, s2, s3, s4, s5, s6⟩ := hSw; go_simp; (try with_reducible rfl))
        (try simp only [Act.put]); (try simp only [List.setIfInBounds_toArray]); (try simp only [List.set_cons_succ]); (try simp only [List.set_cons_zero])
        refine wpAnyH_take (i := 21) (oi := { dst := some 169, op := Go.Op.fieldAddr 87 (Go.Operand.tmp 168) 2, type := 0, pos := "law.go:277", after := #[{ on := 20, ground := Go.Ground.data }, { on := 0, ground := Go.Ground.phase }, { on := 1, ground := Go.Ground.phase }, { on := 2, ground := Go.Ground.phase }, { on := 3, ground := Go.Ground.phase }, { on := 4, ground := Go.Ground.phase }, { on := 5, ground := Go.Ground.phase }, { on := 6, ground := Go.Ground.phase }, { on := 7, ground := Go.Ground.phase }, { on := 8, ground := Go.Ground.phase }, { on := 9, ground := Go.Ground.phase }, { on := 10, ground := Go.Ground.phase }, { on := 11, ground := Go.Ground.phase }, { on := 12, ground := Go.Ground.phase }, { on := 13, ground := Go.Ground.phase }, { on := 14, ground := Go.Ground.phase }, { on := 15, ground := Go.Ground.phase }, { on := 16, ground := Go.Ground.phase }, { on := 17, ground := Go.Ground.phase }, { on := 18, ground := Go.Ground.phase }, { on := 19, ground := Go.Ground.phase }], guard := none }) (v := ?v21ub2) rfl (by kernel_rfl) (by kernel_rfl) (by kernel_rfl) (fun _ _ _ h => h) (Or.inl ⟨by rfl, ?y21ub2⟩) (by assumption) ?r21ub2
        case y21ub2 => (intro w hSw; obtain ⟨s0, s1, s2, s3, s4, s5, s6⟩ := hSw; go_simp; (try with_reducible rfl))
        (try simp only [Act.put]); (try simp only [List.setIfInBounds_toArray]); (try simp only [List.set_cons_succ]); (try simp only [List.set_cons_zero])
        refine wpAnyH_ready (rs := [22]) (by kernel_rfl) (by simp) ?_
        refine AllReadyH.cons (o := { dst := none, op := Go.Op.store 78 (Go.Operand.tmp 169) (Go.Operand.tmp 167), type := 0, pos := "law.go:277", after := #[{ on := 21, ground := Go.Ground.data }, { on := 19, ground := Go.Ground.data }, { on := 19, ground := Go.Ground.chain }, { on := 0, ground := Go.Ground.phase }, { on := 1, ground := Go.Ground.phase }, { on := 2, ground := Go.Ground.phase }, { on := 3, ground := Go.Ground.phase }, { on := 4, ground := Go.Ground.phase }, { on := 5, ground := Go.Ground.phase }, { on := 6, ground := Go.Ground.phase }, { on := 7, ground := Go.Ground.phase }, { on := 8, ground := Go.Ground.phase }, { on := 9, ground := Go.Ground.phase }, { on := 10, ground := Go.Ground.phase }, { on := 11, ground := Go.Ground.phase }, { on := 12, ground := Go.Ground.phase }, { on := 13, ground := Go.Ground.phase }, { on := 14, ground := Go.Ground.phase }, { on := 15, ground := Go.Ground.phase }, { on := 16, ground := Go.Ground.phase }, { on := 17, ground := Go.Ground.phase }, { on := 18, ground := Go.Ground.phase }, { on := 19, ground := Go.Ground.phase }], guard := none }) rfl (fun Kc hK => ?_) AllReadyH.nil
        go_simp
        refine hK.out _ _ HH8.out (fun hHeld => ?_)
        clear hK Kc
        (try simp only [Act.put]); (try simp only [List.setIfInBounds_toArray]); (try simp only [List.set_cons_succ]); (try simp only [List.set_cons_zero])
        refine wpAnyH_done (by kernel_rfl) ?_ _
        clear hHeld
        go_wp2_with fail
        go_ret
        exact ⟨rfl, HRD.out⟩
      · go_simp
        refine hK.out _ _ HH6.out (fun hHeld => ?_)
        clear hK Kc
        (try simp only [Act.put]); (try simp only [List.setIfInBounds_toArray]); (try simp only [List.set_cons_succ]); (try simp only [List.set_cons_zero])
        refine wpAnyH_ready (rs := [4]) (by kernel_rfl) (by simp) ?_
        refine AllReadyH.cons (o := { dst := some 152, op := Go.Op.load 78 (Go.Operand.tmp 151), type := 78, pos := "law.go:277", after := #[{ on := 3, ground := Go.Ground.data }], guard := none }) rfl (fun Kc hK => ?_) AllReadyH.nil
        go_simp
        refine hK.out _ _ HH6.out (fun hHeld => ?_)
        clear hK Kc
        (try simp only [Act.put]); (try simp only [List.setIfInBounds_toArray]); (try simp only [List.set_cons_succ]); (try simp only [List.set_cons_zero])
        refine wpAnyH_ready (rs := [19]) (by kernel_rfl) (by simp) ?_
        refine AllReadyH.cons (o := { dst := some 167, op := Go.Op.call { callee := Go.Callee.builtin Go.Builtin.append, args := #[Go.Operand.tmp 152, Go.Operand.tmp 166], argTypes := #[78, 78] }, type := 78, pos := "law.go:277", after := #[{ on := 4, ground := Go.Ground.data }, { on := 18, ground := Go.Ground.data }, { on := 13, ground := Go.Ground.chain }], guard := none }) rfl (fun Kc hK => ?_) AllReadyH.nil
        refine step_append_anyN (P := Try.prog) _ rfl (.tmp 152) (.tmp 166) 78 78 rfl 93 (.agg #[.slice none 0 0, .int .i64 0, .pointer none, .slice none 0 0, .int .i64 0, .int .i64 0]) 6 80 Try.underlying78 info93 rfl (.slice (some ⟨bl, 0, none⟩) nl cl) nl xs rfl HOv.out (.slice (some ⟨w9.heap.size, 0, none⟩) 1 1) 1 [.slice ao n cap, .int .i64 place, .pointer (q2.map fun b => ⟨b, 0, none⟩), .slice ao' n' cap', .int .i64 place', .int .i64 (wh : Int)] rfl HSv.out (by omega) (by omega) ?_
        intro v' w7 ha1' ha2' ha3'
        obtain ⟨uo, uc, rfl⟩ := ownN_form ha1'
        obtain ⟨p1, p2, hrd⟩ := HGr.out w7 uo uc ha1' ha2' ha3'
        have HRD := hidM hrd
        have HH7 := hidM (HHg.out w7 ha2')
        have HH8 := hidM (HHs.out w7 HH7.out (.slice uo (nl + 1) uc) hrd)
        clear ha1' ha2' ha3' hrd
        refine hK.out _ _ HH7.out (fun hHeld => ?_)
        clear hK Kc
        (try simp only [Act.put]); (try simp only [List.setIfInBounds_toArray]); (try simp only [List.set_cons_succ]); (try simp only [List.set_cons_zero])
        refine wpAnyH_take (i := 20) (oi := { dst := some 168, op := Go.Op.nilCheck (Go.Operand.tmp 148), type := 0, pos := "law.go:277", after := #[{ on := 0, ground := Go.Ground.data }, { on := 0, ground := Go.Ground.phase }, { on := 1, ground := Go.Ground.phase }, { on := 2, ground := Go.Ground.phase }, { on := 3, ground := Go.Ground.phase }, { on := 4, ground := Go.Ground.phase }, { on := 5, ground := Go.Ground.phase }, { on := 6, ground := Go.Ground.phase }, { on := 7, ground := Go.Ground.phase }, { on := 8, ground := Go.Ground.phase }, { on := 9, ground := Go.Ground.phase }, { on := 10, ground := Go.Ground.phase }, { on := 11, ground := Go.Ground.phase }, { on := 12, ground := Go.Ground.phase }, { on := 13, ground := Go.Ground.phase }, { on := 14, ground := Go.Ground.phase }, { on := 15, ground := Go.Ground.phase }, { on := 16, ground := Go.Ground.phase }, { on := 17, ground := Go.Ground.phase }, { on := 18, ground := Go.Ground.phase }, { on := 19, ground := Go.Ground.phase }], guard := none }) (v := ?v20lb1) rfl (by kernel_rfl) (by kernel_rfl) (by kernel_rfl) (fun _ _ _ h => h) (Or.inl ⟨by rfl, ?y20lb1⟩) (by assumption) ?r20lb1
        case y20lb1 => (intro w hSw; obtain ⟨s0, s1, s2, s3, s4, s5, s6⟩ := hSw; go_simp; (try with_reducible rfl))
        (try simp only [Act.put]); (try simp only [List.setIfInBounds_toArray]); (try simp only [List.set_cons_succ]); (try simp only [List.set_cons_zero])
        refine wpAnyH_take (i := 21) (oi := { dst := some 169, op := Go.Op.fieldAddr 87 (Go.Operand.tmp 168) 2, type := 0, pos := "law.go:277", after := #[{ on := 20, ground := Go.Ground.data }, { on := 0, ground := Go.Ground.phase }, { on := 1, ground := Go.Ground.phase }, { on := 2, ground := Go.Ground.phase }, { on := 3, ground := Go.Ground.phase }, { on := 4, ground := Go.Ground.phase }, { on := 5, ground := Go.Ground.phase }, { on := 6, ground := Go.Ground.phase }, { on := 7, ground := Go.Ground.phase }, { on := 8, ground := Go.Ground.phase }, { on := 9, ground := Go.Ground.phase }, { on := 10, ground := Go.Ground.phase }, { on := 11, ground := Go.Ground.phase }, { on := 12, ground := Go.Ground.phase }, { on := 13, ground := Go.Ground.phase }, { on := 14, ground := Go.Ground.phase }, { on := 15, ground := Go.Ground.phase }, { on := 16, ground := Go.Ground.phase }, { on := 17, ground := Go.Ground.phase }, { on := 18, ground := Go.Ground.phase }, { on := 19, ground := Go.Ground.phase }], guard := none }) (v := ?v21lb2) rfl (by kernel_rfl) (by kernel_rfl) (by kernel_rfl) (fun _ _ _ h => h) (Or.inl ⟨by rfl, ?y21lb2⟩) (by assumption) ?r21lb2
        case y21lb2 => (intro w hSw; obtain ⟨s0, s1, s2, s3, s4, s5, s6⟩ := hSw; go_simp; (try with_reducible rfl))
        (try simp only [Act.put]); (try simp only [List.setIfInBounds_toArray]); (try simp only [List.set_cons_succ]); (try simp only [List.set_cons_zero])
        refine wpAnyH_ready (rs := [22]) (by kernel_rfl) (by simp) ?_
        refine AllReadyH.cons (o := { dst := none, op := Go.Op.store 78 (Go.Operand.tmp 169) (Go.Operand.tmp 167), type := 0, pos := "law.go:277", after := #[{ on := 21, ground := Go.Ground.data }, { on := 19, ground := Go.Ground.data }, { on := 19, ground := Go.Ground.chain }, { on := 0, ground := Go.Ground.phase }, { on := 1, ground := Go.Ground.phase }, { on := 2, ground := Go.Ground.phase }, { on := 3, ground := Go.Ground.phase }, { on := 4, ground := Go.Ground.phase }, { on := 5, ground := Go.Ground.phase }, { on := 6, ground := Go.Ground.phase }, { on := 7, ground := Go.Ground.phase }, { on := 8, ground := Go.Ground.phase }, { on := 9, ground := Go.Ground.phase }, { on := 10, ground := Go.Ground.phase }, { on := 11, ground := Go.Ground.phase }, { on := 12, ground := Go.Ground.phase }, { on := 13, ground := Go.Ground.phase }, { on := 14, ground := Go.Ground.phase }, { on := 15, ground := Go.Ground.phase }, { on := 16, ground := Go.Ground.phase }, { on := 17, ground := Go.Ground.phase }, { on := 18, ground := Go.Ground.phase }, { on := 19, ground := Go.Ground.phase }], guard := none }) rfl (fun Kc hK => ?_) AllReadyH.nil
        go_simp
        refine hK.out _ _ HH8.out (fun hHeld => ?_)
        clear hK Kc
        (try simp only [Act.put]); (try simp only [List.setIfInBounds_toArray]); (try simp only [List.set_cons_succ]); (try simp only [List.set_cons_zero])
        refine wpAnyH_done (by kernel_rfl) ?_ _
        clear hHeld
        go_wp2_with fail
        go_ret
        exact ⟨rfl, HRD.out⟩
end Go.Proofs.Ytomlndoffoeaiaa.Kit
