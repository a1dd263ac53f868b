import Derived.Test.YtomlndoffoeaiaaReadsR
import Derived.Test.YtomlndoffoeaiaaReadsT
namespace Go.Proofs.Ytomlndoffoeaiaa.Kit
open Go.RowKit Go.Deep
set_option linter.unusedVariables false

set_option maxRecDepth 100000 in
set_option maxHeartbeats 4000000 in
theorem step_write (m bl nl cl i : Nat) (o a b : Int) (ao : Option Addr) (n cap : Nat) (place : Int) (q : Option Nat) (ao' : Option Addr) (n' cap' : Nat) (place' who : Int) (ba na ca N jj : Nat) (w : World) (ho0 : -9223372036854775808 ≤ o) (ho1 : o ≤ 9223372036854775807) (hl0 : 0 < nl) (hl1 : nl ≤ 40) (hi : pickV o nl = i)
    (h2 : w.cell? ⟨m, 2, none⟩ = some (.slice (some ⟨bl, 0, none⟩) nl cl)) (hx : SeenAt w bl i (.slice ao n cap) (.int .i64 place) (.pointer (q.map fun b => ⟨b, 0, none⟩)) (.slice ao' n' cap') (.int .i64 place') (.int .i64 who))
    (g0 : w.cell? ⟨m, 0, none⟩ = some (.slice (some ⟨ba, 0, none⟩) na ca)) (g1 : w.cell? ⟨m, 1, none⟩ = some (.int .i64 (N : Int))) (hN0 : 0 < N) (hN : N ≤ na) (hna : na ≤ 4611686018427387903) (ha0 : -9223372036854775808 ≤ a) (ha1 : a ≤ 9223372036854775807) (hjj : pickV a N = jj) (u : Value) (hu : w.cell? ⟨ba, jj, none⟩ = some u) (hf : w.frozen? ⟨ba, jj, none⟩ = false) (hba : ba < w.heap.size) (hmb : ba ≠ m) :
    Calls Try.prog 9 #[.pointer (some ⟨m, 0, none⟩), opV 9 o a b] w fun e w' => e = .returned (.bool true) ∧ ∃ W, Keeps w W (fun _ => False) ∧ w' = W.setCell ⟨ba, jj, none⟩ (.int .u8 (IntKind.u8.wrap b)) := by
  have HG := hidM (And.intro g0 (And.intro g1 (And.intro hu hf)))
  have HJ := hidM hjj
  have HBa := hidM (And.intro hba hmb)
  clear g0 g1 hu hf hjj hba hmb
  unfold opV
  go_enter Try.func9, Try.ntmps9
  go_wp2
  obtain ⟨W, hW⟩ : ∃ W, W = w.alloc (.cells #[.int .i64 9, .int .i64 o, .int .i64 a, .int .i64 b] 29) := ⟨_, rfl⟩
  obtain ⟨B, hB⟩ : ∃ B, B = w.heap.size := ⟨_, rfl⟩
  rw [← hW, ← hB]
  have hrow : W.heap[B]? = some (.cells #[.int .i64 9, .int .i64 o, .int .i64 a, .int .i64 b] 29 (0, 0)) := by rw [hW, hB]; exact heap_alloc_new w _
  have HK : Hid (Keeps w W (fun _ => False)) := by rw [hW]; exact (Keeps.refl _ _).alloc _
  have HBB := hidM hB
  have HR : Hid (W.heap[B]? = some (.cells #[.int .i64 9, .int .i64 o, .int .i64 a, .int .i64 b] 29 (0, 0))) := hrow
  have b1 : W.cell? ⟨B, 1, none⟩ = some (.int .i64 o) := by rw [cell_of_row _ _ 1 _ _ _ hrow]; rfl
  have c2 := HK.out.cell' h2 id
  obtain ⟨y0, y1, y2, y3, y4, y5⟩ := hx
  have z0 := HK.out.cell' y0 id
  have z1 := HK.out.cell' y1 id
  have z2 := HK.out.cell' y2 id
  have z3 := HK.out.cell' y3 id
  have z4 := HK.out.cell' y4 id
  have z5 := HK.out.cell' y5 id
  have hil : i < nl := by have := pickV_bd o nl (by omega); omega
  have HI : Hid (pickV o nl = i) := hi
  clear hW hB hrow h2 y0 y1 y2 y3 y4 y5 hi
  go_region_held3 (fun w' => w'.cell? ⟨m, 2, none⟩ = some (.slice (some ⟨bl, 0, none⟩) nl cl) ∧ w'.cell? ⟨B, 1, none⟩ = some (.int .i64 o) ∧ w'.cell? ⟨bl, i * 6, none⟩ = some (.slice ao n cap) ∧ w'.cell? ⟨bl, i * 6 + 1, none⟩ = some (.int .i64 place) ∧ w'.cell? ⟨bl, i * 6 + 2, none⟩ = some (.pointer (q.map fun b => ⟨b, 0, none⟩)) ∧ w'.cell? ⟨bl, i * 6 + 3, none⟩ = some (.slice ao' n' cap') ∧ w'.cell? ⟨bl, i * 6 + 4, none⟩ = some (.int .i64 place') ∧ w'.cell? ⟨bl, i * 6 + 5, none⟩ = some (.int .i64 who)) (go_keep) ((go_at_call 33; refine (pick_any o nl _ ho0 ho1 (by omega) (by omega)).mono ?_; rw [HI.out]; rintro e w9 ⟨rfl, rfl⟩))
  · clear c2 b1 z0 z1 z2 z3 z4 z5
    have KW := Keeps.none_alloc_drew' W (.cells #[.slice ao n cap, .int .i64 place, .pointer (q.map fun b => ⟨b, 0, none⟩), .slice ao' n' cap', .int .i64 place', .int .i64 who] 93)
    have hs : (W.alloc (.cells #[.slice ao n cap, .int .i64 place, .pointer (q.map fun b => ⟨b, 0, none⟩), .slice ao' n' cap', .int .i64 place', .int .i64 who] 93)).drew.heap[W.heap.size]? = some (.cells #[.slice ao n cap, .int .i64 place, .pointer (q.map fun b => ⟨b, 0, none⟩), .slice ao' n' cap', .int .i64 place', .int .i64 who] 93 (0, 0)) := heap_alloc_new W _
    have hr := KW.row HR.out id
    have hk : Keeps w (W.alloc (.cells #[.slice ao n cap, .int .i64 place, .pointer (q.map fun b => ⟨b, 0, none⟩), .slice ao' n' cap', .int .i64 place', .int .i64 who] 93)).drew (fun _ => False) := HK.out.trans KW fun _ _ e => e
    clear KW HR HK
    generalize (W.alloc (.cells #[.slice ao n cap, .int .i64 place, .pointer (q.map fun b => ⟨b, 0, none⟩), .slice ao' n' cap', .int .i64 place', .int .i64 who] 93)).drew = W' at *
    generalize W.heap.size = X at *
    obtain ⟨d0, d1, d2, d3⟩ := boxCells4 hr
    obtain ⟨e0, e1, e2, e3, e4, e5⟩ := boxCells6 hs
    have HK : Hid (Keeps w W' (fun _ => False)) := hk
    clear hr hs hk
    have f0 := HK.out.cell' HG.out.1 id
    have f1 := HK.out.cell' HG.out.2.1 id
    have fu := HK.out.cell' HG.out.2.2.1 id
    have ff : W'.frozen? ⟨ba, jj, none⟩ = false := by
      have h1 := HG.out.2.2.2
      have h2 := HK.out.block ba HBa.out.1 id
      simp only [World.frozen?] at h1 ⊢
      rw [h2]
      exact h1
    have hNI : (0 : Int) < (N : Int) := by omega
    have hjl : jj < N := by have h1 := pickV_bd a N (by omega); have h2 := HJ.out; omega
    have hjna : jj < na := by omega
    have HBn : Hid (ba ≠ B) := fun e => by have h1 := HBa.out.1; have h2 := HBB.out; omega
    have HSet : Hid (∀ (v : Value) (B' jb : Nat), B' ≠ ba → ∀ x, W'.drew.cell? ⟨B', jb, none⟩ = some x → (W'.drew.setCell ⟨ba, jj, none⟩ v).cell? ⟨B', jb, none⟩ = some x) := fun v B' jb hne x hx => (cell_setCell_far W'.drew (fun e => hne e.symm) v jj jb).trans hx
    go_wp2_with fail
    have HH : Hid ((W'.drew.cell? ⟨m, 0, none⟩ = some (.slice (some ⟨ba, 0, none⟩) na ca) ∧ W'.drew.cell? ⟨m, 1, none⟩ = some (.int .i64 (N : Int)) ∧ W'.drew.cell? ⟨B, 2, none⟩ = some (.int .i64 a) ∧ W'.drew.cell? ⟨B, 3, none⟩ = some (.int .i64 b)) ) := ⟨f0, f1, d2, d3⟩
    refine wp_region_held_drew (S := fun w' => w'.cell? ⟨m, 0, none⟩ = some (.slice (some ⟨ba, 0, none⟩) na ca) ∧ w'.cell? ⟨m, 1, none⟩ = some (.int .i64 (N : Int)) ∧ w'.cell? ⟨B, 2, none⟩ = some (.int .i64 a) ∧ w'.cell? ⟨B, 3, none⟩ = some (.int .i64 b)) (by kernel_rfl) HH.out (fun hHeld => ?_)
    refine wpAnyH_take (i := 0) (oi := { dst := some 177, op := Go.Op.move (Go.Operand.tmp 0), type := 24, pos := "law.go:281", after := #[], guard := none }) (v := ?v0wa1) rfl (by kernel_rfl) (by kernel_rfl) (by kernel_rfl) (fun _ _ _ h => h) (Or.inl ⟨by rfl, ?y0wa1⟩) (by assumption) ?r0wa1
    case y0wa1 => (intro w hSw; obtain ⟨s0, s1, s2, s3⟩ := hSw; go_simp; (try with_reducible rfl))
    (try simp only [Act.put]); (try simp only [List.setIfInBounds_toArray]); (try simp only [List.set_cons_succ]); (try simp only [List.set_cons_zero])
    refine wpAnyH_take (i := 1) (oi := { dst := some 178, op := Go.Op.nilCheck (Go.Operand.tmp 177), type := 0, pos := "law.go:281", after := #[{ on := 0, ground := Go.Ground.data }], guard := none }) (v := ?v1wa2) rfl (by kernel_rfl) (by kernel_rfl) (by kernel_rfl) (fun _ _ _ h => h) (Or.inl ⟨by rfl, ?y1wa2⟩) (by assumption) ?r1wa2
    case y1wa2 => (intro w hSw; obtain ⟨s0, s1, s2, s3⟩ := hSw; go_simp; (try with_reducible rfl))
    (try simp only [Act.put]); (try simp only [List.setIfInBounds_toArray]); (try simp only [List.set_cons_succ]); (try simp only [List.set_cons_zero])
    refine wpAnyH_take (i := 2) (oi := { dst := some 179, op := Go.Op.fieldAddr 87 (Go.Operand.tmp 178) 0, type := 0, pos := "law.go:281", after := #[{ on := 1, ground := Go.Ground.data }], guard := none }) (v := ?v2wa3) rfl (by kernel_rfl) (by kernel_rfl) (by kernel_rfl) (fun _ _ _ h => h) (Or.inl ⟨by rfl, ?y2wa3⟩) (by assumption) ?r2wa3
    case y2wa3 => (intro w hSw; obtain ⟨s0, s1, s2, s3⟩ := hSw; go_simp; (try with_reducible rfl))
    (try simp only [Act.put]); (try simp only [List.setIfInBounds_toArray]); (try simp only [List.set_cons_succ]); (try simp only [List.set_cons_zero])
    refine wpAnyH_take (i := 3) (oi := { dst := some 180, op := Go.Op.load 22 (Go.Operand.tmp 179), type := 22, pos := "law.go:281", after := #[{ on := 2, ground := Go.Ground.data }], guard := none }) (v := ?v3wa4) rfl (by kernel_rfl) (by kernel_rfl) (by kernel_rfl) (fun _ _ _ h => h) (Or.inl ⟨by rfl, ?y3wa4⟩) (by assumption) ?r3wa4
    case y3wa4 => (intro w hSw; obtain ⟨s0, s1, s2, s3⟩ := hSw; go_simp; (try with_reducible rfl))
    (try simp only [Act.put]); (try simp only [List.setIfInBounds_toArray]); (try simp only [List.set_cons_succ]); (try simp only [List.set_cons_zero])
    refine wpAnyH_take (i := 4) (oi := { dst := some 181, op := Go.Op.fieldAddr 29 (Go.Operand.tmp 3) 2, type := 0, pos := "law.go:281", after := #[], guard := none }) (v := ?v4wa5) rfl (by kernel_rfl) (by kernel_rfl) (by kernel_rfl) (fun _ _ _ h => h) (Or.inl ⟨by rfl, ?y4wa5⟩) (by assumption) ?r4wa5
    case y4wa5 => (intro w hSw; obtain ⟨s0, s1, s2, s3⟩ := hSw; go_simp; (try with_reducible rfl))
    (try simp only [Act.put]); (try simp only [List.setIfInBounds_toArray]); (try simp only [List.set_cons_succ]); (try simp only [List.set_cons_zero])
    refine wpAnyH_take (i := 5) (oi := { dst := some 182, op := Go.Op.load 3 (Go.Operand.tmp 181), type := 3, pos := "law.go:281", after := #[{ on := 4, ground := Go.Ground.data }], guard := none }) (v := ?v5wa6) rfl (by kernel_rfl) (by kernel_rfl) (by kernel_rfl) (fun _ _ _ h => h) (Or.inl ⟨by rfl, ?y5wa6⟩) (by assumption) ?r5wa6
    case y5wa6 => (intro w hSw; obtain ⟨s0, s1, s2, s3⟩ := hSw; go_simp; (try with_reducible rfl))
    (try simp only [Act.put]); (try simp only [List.setIfInBounds_toArray]); (try simp only [List.set_cons_succ]); (try simp only [List.set_cons_zero])
    refine wpAnyH_take (i := 6) (oi := { dst := some 183, op := Go.Op.move (Go.Operand.tmp 0), type := 24, pos := "law.go:281", after := #[], guard := none }) (v := ?v6wa7) rfl (by kernel_rfl) (by kernel_rfl) (by kernel_rfl) (fun _ _ _ h => h) (Or.inl ⟨by rfl, ?y6wa7⟩) (by assumption) ?r6wa7
    case y6wa7 => (intro w hSw; obtain ⟨s0, s1, s2, s3⟩ := hSw; go_simp; (try with_reducible rfl))
    (try simp only [Act.put]); (try simp only [List.setIfInBounds_toArray]); (try simp only [List.set_cons_succ]); (try simp only [List.set_cons_zero])
    refine wpAnyH_take (i := 7) (oi := { dst := some 184, op := Go.Op.nilCheck (Go.Operand.tmp 183), type := 0, pos := "law.go:281", after := #[{ on := 6, ground := Go.Ground.data }], guard := none }) (v := ?v7wa8) rfl (by kernel_rfl) (by kernel_rfl) (by kernel_rfl) (fun _ _ _ h => h) (Or.inl ⟨by rfl, ?y7wa8⟩) (by assumption) ?r7wa8
    case y7wa8 => (intro w hSw; obtain ⟨s0, s1, s2, s3⟩ := hSw; go_simp; (try with_reducible rfl))
    (try simp only [Act.put]); (try simp only [List.setIfInBounds_toArray]); (try simp only [List.set_cons_succ]); (try simp only [List.set_cons_zero])
    refine wpAnyH_take (i := 8) (oi := { dst := some 185, op := Go.Op.fieldAddr 87 (Go.Operand.tmp 184) 1, type := 0, pos := "law.go:281", after := #[{ on := 7, ground := Go.Ground.data }], guard := none }) (v := ?v8wa9) rfl (by kernel_rfl) (by kernel_rfl) (by kernel_rfl) (fun _ _ _ h => h) (Or.inl ⟨by rfl, ?y8wa9⟩) (by assumption) ?r8wa9
    case y8wa9 => (intro w hSw; obtain ⟨s0, s1, s2, s3⟩ := hSw; go_simp; (try with_reducible rfl))
    (try simp only [Act.put]); (try simp only [List.setIfInBounds_toArray]); (try simp only [List.set_cons_succ]); (try simp only [List.set_cons_zero])
    refine wpAnyH_take (i := 9) (oi := { dst := some 186, op := Go.Op.load 3 (Go.Operand.tmp 185), type := 3, pos := "law.go:281", after := #[{ on := 8, ground := Go.Ground.data }], guard := none }) (v := ?v9wa10) rfl (by kernel_rfl) (by kernel_rfl) (by kernel_rfl) (fun _ _ _ h => h) (Or.inl ⟨by rfl, ?y9wa10⟩) (by assumption) ?r9wa10
    case y9wa10 => (intro w hSw; obtain ⟨s0, s1, s2, s3⟩ := hSw; go_simp; (try with_reducible rfl))
    (try simp only [Act.put]); (try simp only [List.setIfInBounds_toArray]); (try simp only [List.set_cons_succ]); (try simp only [List.set_cons_zero])
    refine wpAnyH_take (i := 11) (oi := { dst := some 188, op := Go.Op.fieldAddr 29 (Go.Operand.tmp 3) 3, type := 0, pos := "law.go:281", after := #[], guard := none }) (v := ?v11wa11) rfl (by kernel_rfl) (by kernel_rfl) (by kernel_rfl) (fun _ _ _ h => h) (Or.inl ⟨by rfl, ?y11wa11⟩) (by assumption) ?r11wa11
    case y11wa11 => (intro w hSw; obtain ⟨s0, s1, s2, s3⟩ := hSw; go_simp; (try with_reducible rfl))
    (try simp only [Act.put]); (try simp only [List.setIfInBounds_toArray]); (try simp only [List.set_cons_succ]); (try simp only [List.set_cons_zero])
    refine wpAnyH_take (i := 12) (oi := { dst := some 189, op := Go.Op.load 3 (Go.Operand.tmp 188), type := 3, pos := "law.go:281", after := #[{ on := 11, ground := Go.Ground.data }], guard := none }) (v := ?v12wa12) rfl (by kernel_rfl) (by kernel_rfl) (by kernel_rfl) (fun _ _ _ h => h) (Or.inl ⟨by rfl, ?y12wa12⟩) (by assumption) ?r12wa12
    case y12wa12 => (intro w hSw; obtain ⟨s0, s1, s2, s3⟩ := hSw; go_simp; (try with_reducible rfl))
    (try simp only [Act.put]); (try simp only [List.setIfInBounds_toArray]); (try simp only [List.set_cons_succ]); (try simp only [List.set_cons_zero])
    refine wpAnyH_take (i := 13) (oi := { dst := some 190, op := Go.Op.convert 3 5 (Go.Operand.tmp 189), type := 5, pos := "law.go:281", after := #[{ on := 12, ground := Go.Ground.data }], guard := none }) (v := ?v13wa13) rfl (by kernel_rfl) (by kernel_rfl) (by kernel_rfl) (fun _ _ _ h => h) (Or.inl ⟨by rfl, ?y13wa13⟩) (by assumption) ?r13wa13
    case y13wa13 => (intro w hSw; obtain ⟨s0, s1, s2, s3⟩ := hSw; go_simp; (try with_reducible rfl))
    (try simp only [Act.put]); (try simp only [List.setIfInBounds_toArray]); (try simp only [List.set_cons_succ]); (try simp only [List.set_cons_zero])
    refine wpAnyH_ready (rs := [10]) (by kernel_rfl) (by simp) ?_
    refine AllReadyH.cons (o := { dst := some 187, op := Go.Op.call { callee := Go.Callee.value (Go.Operand.func 33), args := #[Go.Operand.tmp 182, Go.Operand.tmp 186], argTypes := #[3, 3] }, type := 3, pos := "law.go:281", after := #[{ on := 5, ground := Go.Ground.data }, { on := 9, ground := Go.Ground.data }], guard := none }) rfl (fun Kc hK => ?_) AllReadyH.nil
    go_simp
    go_at_call 33
    refine (pick_any a N _ ha0 ha1 (by omega) (by omega)).mono ?_
    rw [HJ.out]
    rintro e w9 ⟨rfl, rfl⟩
    go_wp2_with fail
    refine hK.out _ _ HH.out (fun hHeld => ?_)
    clear hK Kc
    (try simp only [Act.put]); (try simp only [List.setIfInBounds_toArray]); (try simp only [List.set_cons_succ]); (try simp only [List.set_cons_zero])
    refine wpAnyH_take (i := 14) (oi := { dst := some 191, op := Go.Op.indexAddr 22 (Go.Operand.tmp 180) (Go.Operand.tmp 187), type := 0, pos := "law.go:281", after := #[{ on := 3, ground := Go.Ground.data }, { on := 10, ground := Go.Ground.data }, { on := 0, ground := Go.Ground.phase }, { on := 1, ground := Go.Ground.phase }, { on := 2, ground := Go.Ground.phase }, { on := 3, ground := Go.Ground.phase }, { on := 4, ground := Go.Ground.phase }, { on := 5, ground := Go.Ground.phase }, { on := 6, ground := Go.Ground.phase }, { on := 7, ground := Go.Ground.phase }, { on := 8, ground := Go.Ground.phase }, { on := 9, ground := Go.Ground.phase }, { on := 10, ground := Go.Ground.phase }, { on := 11, ground := Go.Ground.phase }, { on := 12, ground := Go.Ground.phase }, { on := 13, ground := Go.Ground.phase }], guard := none }) (v := ?v14wa14) rfl (by kernel_rfl) (by kernel_rfl) (by kernel_rfl) (fun _ _ _ h => h) (Or.inl ⟨by rfl, ?y14wa14⟩) (by assumption) ?r14wa14
    case y14wa14 => (intro w hSw; obtain ⟨s0, s1, s2, s3⟩ := hSw; go_simp; (try with_reducible rfl))
    (try simp only [Act.put]); (try simp only [List.setIfInBounds_toArray]); (try simp only [List.set_cons_succ]); (try simp only [List.set_cons_zero])
    refine wpAnyH_ready (rs := [15]) (by kernel_rfl) (by simp) ?_
    refine AllReadyH.cons (o := { dst := none, op := Go.Op.store 5 (Go.Operand.tmp 191) (Go.Operand.tmp 190), type := 0, pos := "law.go:281", after := #[{ on := 14, ground := Go.Ground.data }, { on := 13, ground := Go.Ground.data }, { on := 10, ground := Go.Ground.chain }, { on := 0, ground := Go.Ground.phase }, { on := 1, ground := Go.Ground.phase }, { on := 2, ground := Go.Ground.phase }, { on := 3, ground := Go.Ground.phase }, { on := 4, ground := Go.Ground.phase }, { on := 5, ground := Go.Ground.phase }, { on := 6, ground := Go.Ground.phase }, { on := 7, ground := Go.Ground.phase }, { on := 8, ground := Go.Ground.phase }, { on := 9, ground := Go.Ground.phase }, { on := 10, ground := Go.Ground.phase }, { on := 11, ground := Go.Ground.phase }, { on := 12, ground := Go.Ground.phase }, { on := 13, ground := Go.Ground.phase }], guard := none }) rfl (fun Kc hK => ?_) AllReadyH.nil
    go_simp
    refine hK.out _ _ ⟨HSet.out _ _ _ HBa.out.2.symm _ HH.out.1, HSet.out _ _ _ HBa.out.2.symm _ HH.out.2.1, HSet.out _ _ _ HBn.out.symm _ HH.out.2.2.1, HSet.out _ _ _ HBn.out.symm _ HH.out.2.2.2⟩ (fun hHeld => ?_)
    clear hK Kc
    (try simp only [Act.put]); (try simp only [List.setIfInBounds_toArray]); (try simp only [List.set_cons_succ]); (try simp only [List.set_cons_zero])
    refine wpAnyH_done (by kernel_rfl) ?_ _
    clear hHeld f0 f1 fu ff d0 d1 d2 d3 e0 e1 e2 e3 e4 e5
    go_wp2_with fail
    go_ret
    exact ⟨rfl, W'.drew, HK.out.drew, rfl⟩
  · clear c2 b1 z0 z1 z2 z3 z4 z5
    have KW := Keeps.none_alloc_drew' W (.cells #[.slice ao n cap, .int .i64 place, .pointer (q.map fun b => ⟨b, 0, none⟩), .slice ao' n' cap', .int .i64 place', .int .i64 who] 93)
    have hs : (W.alloc (.cells #[.slice ao n cap, .int .i64 place, .pointer (q.map fun b => ⟨b, 0, none⟩), .slice ao' n' cap', .int .i64 place', .int .i64 who] 93)).drew.heap[W.heap.size]? = some (.cells #[.slice ao n cap, .int .i64 place, .pointer (q.map fun b => ⟨b, 0, none⟩), .slice ao' n' cap', .int .i64 place', .int .i64 who] 93 (0, 0)) := heap_alloc_new W _
    have hr := KW.row HR.out id
    have hk : Keeps w (W.alloc (.cells #[.slice ao n cap, .int .i64 place, .pointer (q.map fun b => ⟨b, 0, none⟩), .slice ao' n' cap', .int .i64 place', .int .i64 who] 93)).drew (fun _ => False) := HK.out.trans KW fun _ _ e => e
    clear KW HR HK
    generalize (W.alloc (.cells #[.slice ao n cap, .int .i64 place, .pointer (q.map fun b => ⟨b, 0, none⟩), .slice ao' n' cap', .int .i64 place', .int .i64 who] 93)).drew = W' at *
    generalize W.heap.size = X at *
    obtain ⟨d0, d1, d2, d3⟩ := boxCells4 hr
    obtain ⟨e0, e1, e2, e3, e4, e5⟩ := boxCells6 hs
    have HK : Hid (Keeps w W' (fun _ => False)) := hk
    clear hr hs hk
    have f0 := HK.out.cell' HG.out.1 id
    have f1 := HK.out.cell' HG.out.2.1 id
    have fu := HK.out.cell' HG.out.2.2.1 id
    have ff : W'.frozen? ⟨ba, jj, none⟩ = false := by
      have h1 := HG.out.2.2.2
      have h2 := HK.out.block ba HBa.out.1 id
      simp only [World.frozen?] at h1 ⊢
      rw [h2]
      exact h1
    have hNI : (0 : Int) < (N : Int) := by omega
    have hjl : jj < N := by have h1 := pickV_bd a N (by omega); have h2 := HJ.out; omega
    have hjna : jj < na := by omega
    have HBn : Hid (ba ≠ B) := fun e => by have h1 := HBa.out.1; have h2 := HBB.out; omega
    have HSet : Hid (∀ (v : Value) (B' jb : Nat), B' ≠ ba → ∀ x, W'.drew.cell? ⟨B', jb, none⟩ = some x → (W'.drew.setCell ⟨ba, jj, none⟩ v).cell? ⟨B', jb, none⟩ = some x) := fun v B' jb hne x hx => (cell_setCell_far W'.drew (fun e => hne e.symm) v jj jb).trans hx
    go_wp2_with fail
    have HH : Hid ((W'.drew.cell? ⟨m, 0, none⟩ = some (.slice (some ⟨ba, 0, none⟩) na ca) ∧ W'.drew.cell? ⟨m, 1, none⟩ = some (.int .i64 (N : Int)) ∧ W'.drew.cell? ⟨B, 2, none⟩ = some (.int .i64 a) ∧ W'.drew.cell? ⟨B, 3, none⟩ = some (.int .i64 b)) ) := ⟨f0, f1, d2, d3⟩
    refine wp_region_held_drew (S := fun w' => w'.cell? ⟨m, 0, none⟩ = some (.slice (some ⟨ba, 0, none⟩) na ca) ∧ w'.cell? ⟨m, 1, none⟩ = some (.int .i64 (N : Int)) ∧ w'.cell? ⟨B, 2, none⟩ = some (.int .i64 a) ∧ w'.cell? ⟨B, 3, none⟩ = some (.int .i64 b)) (by kernel_rfl) HH.out (fun hHeld => ?_)
    refine wpAnyH_take (i := 0) (oi := { dst := some 177, op := Go.Op.move (Go.Operand.tmp 0), type := 24, pos := "law.go:281", after := #[], guard := none }) (v := ?v0wb1) rfl (by kernel_rfl) (by kernel_rfl) (by kernel_rfl) (fun _ _ _ h => h) (Or.inl ⟨by rfl, ?y0wb1⟩) (by assumption) ?r0wb1
    case y0wb1 => (intro w hSw; obtain ⟨s0, s1, s2, s3⟩ := hSw; go_simp; (try with_reducible rfl))
    (try simp only [Act.put]); (try simp only [List.setIfInBounds_toArray]); (try simp only [List.set_cons_succ]); (try simp only [List.set_cons_zero])
    refine wpAnyH_take (i := 1) (oi := { dst := some 178, op := Go.Op.nilCheck (Go.Operand.tmp 177), type := 0, pos := "law.go:281", after := #[{ on := 0, ground := Go.Ground.data }], guard := none }) (v := ?v1wb2) rfl (by kernel_rfl) (by kernel_rfl) (by kernel_rfl) (fun _ _ _ h => h) (Or.inl ⟨by rfl, ?y1wb2⟩) (by assumption) ?r1wb2
    case y1wb2 => (intro w hSw; obtain ⟨s0, s1, s2, s3⟩ := hSw; go_simp; (try with_reducible rfl))
    (try simp only [Act.put]); (try simp only [List.setIfInBounds_toArray]); (try simp only [List.set_cons_succ]); (try simp only [List.set_cons_zero])
    refine wpAnyH_take (i := 2) (oi := { dst := some 179, op := Go.Op.fieldAddr 87 (Go.Operand.tmp 178) 0, type := 0, pos := "law.go:281", after := #[{ on := 1, ground := Go.Ground.data }], guard := none }) (v := ?v2wb3) rfl (by kernel_rfl) (by kernel_rfl) (by kernel_rfl) (fun _ _ _ h => h) (Or.inl ⟨by rfl, ?y2wb3⟩) (by assumption) ?r2wb3
    case y2wb3 => (intro w hSw; obtain ⟨s0, s1, s2, s3⟩ := hSw; go_simp; (try with_reducible rfl))
    (try simp only [Act.put]); (try simp only [List.setIfInBounds_toArray]); (try simp only [List.set_cons_succ]); (try simp only [List.set_cons_zero])
    refine wpAnyH_take (i := 3) (oi := { dst := some 180, op := Go.Op.load 22 (Go.Operand.tmp 179), type := 22, pos := "law.go:281", after := #[{ on := 2, ground := Go.Ground.data }], guard := none }) (v := ?v3wb4) rfl (by kernel_rfl) (by kernel_rfl) (by kernel_rfl) (fun _ _ _ h => h) (Or.inl ⟨by rfl, ?y3wb4⟩) (by assumption) ?r3wb4
    case y3wb4 => (intro w hSw; obtain ⟨s0, s1, s2, s3⟩ := hSw; go_simp; (try with_reducible rfl))
    (try simp only [Act.put]); (try simp only [List.setIfInBounds_toArray]); (try simp only [List.set_cons_succ]); (try simp only [List.set_cons_zero])
    refine wpAnyH_take (i := 4) (oi := { dst := some 181, op := Go.Op.fieldAddr 29 (Go.Operand.tmp 3) 2, type := 0, pos := "law.go:281", after := #[], guard := none }) (v := ?v4wb5) rfl (by kernel_rfl) (by kernel_rfl) (by kernel_rfl) (fun _ _ _ h => h) (Or.inl ⟨by rfl, ?y4wb5⟩) (by assumption) ?r4wb5
    case y4wb5 => (intro w hSw; obtain ⟨s0, s1, s2, s3⟩ := hSw; go_simp; (try with_reducible rfl))
    (try simp only [Act.put]); (try simp only [List.setIfInBounds_toArray]); (try simp only [List.set_cons_succ]); (try simp only [List.set_cons_zero])
    refine wpAnyH_take (i := 5) (oi := { dst := some 182, op := Go.Op.load 3 (Go.Operand.tmp 181), type := 3, pos := "law.go:281", after := #[{ on := 4, ground := Go.Ground.data }], guard := none }) (v := ?v5wb6) rfl (by kernel_rfl) (by kernel_rfl) (by kernel_rfl) (fun _ _ _ h => h) (Or.inl ⟨by rfl, ?y5wb6⟩) (by assumption) ?r5wb6
    case y5wb6 => (intro w hSw; obtain ⟨s0, s1, s2, s3⟩ := hSw; go_simp; (try with_reducible rfl))
    (try simp only [Act.put]); (try simp only [List.setIfInBounds_toArray]); (try simp only [List.set_cons_succ]); (try simp only [List.set_cons_zero])
    refine wpAnyH_take (i := 6) (oi := { dst := some 183, op := Go.Op.move (Go.Operand.tmp 0), type := 24, pos := "law.go:281", after := #[], guard := none }) (v := ?v6wb7) rfl (by kernel_rfl) (by kernel_rfl) (by kernel_rfl) (fun _ _ _ h => h) (Or.inl ⟨by rfl, ?y6wb7⟩) (by assumption) ?r6wb7
    case y6wb7 => (intro w hSw; obtain ⟨s0, s1, s2, s3⟩ := hSw; go_simp; (try with_reducible rfl))
    (try simp only [Act.put]); (try simp only [List.setIfInBounds_toArray]); (try simp only [List.set_cons_succ]); (try simp only [List.set_cons_zero])
    refine wpAnyH_take (i := 7) (oi := { dst := some 184, op := Go.Op.nilCheck (Go.Operand.tmp 183), type := 0, pos := "law.go:281", after := #[{ on := 6, ground := Go.Ground.data }], guard := none }) (v := ?v7wb8) rfl (by kernel_rfl) (by kernel_rfl) (by kernel_rfl) (fun _ _ _ h => h) (Or.inl ⟨by rfl, ?y7wb8⟩) (by assumption) ?r7wb8
    case y7wb8 => (intro w hSw; obtain ⟨s0, s1, s2, s3⟩ := hSw; go_simp; (try with_reducible rfl))
    (try simp only [Act.put]); (try simp only [List.setIfInBounds_toArray]); (try simp only [List.set_cons_succ]); (try simp only [List.set_cons_zero])
    refine wpAnyH_take (i := 8) (oi := { dst := some 185, op := Go.Op.fieldAddr 87 (Go.Operand.tmp 184) 1, type := 0, pos := "law.go:281", after := #[{ on := 7, ground := Go.Ground.data }], guard := none }) (v := ?v8wb9) rfl (by kernel_rfl) (by kernel_rfl) (by kernel_rfl) (fun _ _ _ h => h) (Or.inl ⟨by rfl, ?y8wb9⟩) (by assumption) ?r8wb9
    case y8wb9 => (intro w hSw; obtain ⟨s0, s1, s2, s3⟩ := hSw; go_simp; (try with_reducible rfl))
    (try simp only [Act.put]); (try simp only [List.setIfInBounds_toArray]); (try simp only [List.set_cons_succ]); (try simp only [List.set_cons_zero])
    refine wpAnyH_take (i := 9) (oi := { dst := some 186, op := Go.Op.load 3 (Go.Operand.tmp 185), type := 3, pos := "law.go:281", after := #[{ on := 8, ground := Go.Ground.data }], guard := none }) (v := ?v9wb10) rfl (by kernel_rfl) (by kernel_rfl) (by kernel_rfl) (fun _ _ _ h => h) (Or.inl ⟨by rfl, ?y9wb10⟩) (by assumption) ?r9wb10
    case y9wb10 => (intro w hSw; obtain ⟨s0, s1, s2, s3⟩ := hSw; go_simp; (try with_reducible rfl))
    (try simp only [Act.put]); (try simp only [List.setIfInBounds_toArray]); (try simp only [List.set_cons_succ]); (try simp only [List.set_cons_zero])
    refine wpAnyH_take (i := 11) (oi := { dst := some 188, op := Go.Op.fieldAddr 29 (Go.Operand.tmp 3) 3, type := 0, pos := "law.go:281", after := #[], guard := none }) (v := ?v11wb11) rfl (by kernel_rfl) (by kernel_rfl) (by kernel_rfl) (fun _ _ _ h => h) (Or.inl ⟨by rfl, ?y11wb11⟩) (by assumption) ?r11wb11
    case y11wb11 => (intro w hSw; obtain ⟨s0, s1, s2, s3⟩ := hSw; go_simp; (try with_reducible rfl))
    (try simp only [Act.put]); (try simp only [List.setIfInBounds_toArray]); (try simp only [List.set_cons_succ]); (try simp only [List.set_cons_zero])
    refine wpAnyH_take (i := 12) (oi := { dst := some 189, op := Go.Op.load 3 (Go.Operand.tmp 188), type := 3, pos := "law.go:281", after := #[{ on := 11, ground := Go.Ground.data }], guard := none }) (v := ?v12wb12) rfl (by kernel_rfl) (by kernel_rfl) (by kernel_rfl) (fun _ _ _ h => h) (Or.inl ⟨by rfl, ?y12wb12⟩) (by assumption) ?r12wb12
    case y12wb12 => (intro w hSw; obtain ⟨s0, s1, s2, s3⟩ := hSw; go_simp; (try with_reducible rfl))
    (try simp only [Act.put]); (try simp only [List.setIfInBounds_toArray]); (try simp only [List.set_cons_succ]); (try simp only [List.set_cons_zero])
    refine wpAnyH_take (i := 13) (oi := { dst := some 190, op := Go.Op.convert 3 5 (Go.Operand.tmp 189), type := 5, pos := "law.go:281", after := #[{ on := 12, ground := Go.Ground.data }], guard := none }) (v := ?v13wb13) rfl (by kernel_rfl) (by kernel_rfl) (by kernel_rfl) (fun _ _ _ h => h) (Or.inl ⟨by rfl, ?y13wb13⟩) (by assumption) ?r13wb13
    case y13wb13 => (intro w hSw; obtain ⟨s0, s1, s2, s3⟩ := hSw; go_simp; (try with_reducible rfl))
    (try simp only [Act.put]); (try simp only [List.setIfInBounds_toArray]); (try simp only [List.set_cons_succ]); (try simp only [List.set_cons_zero])
    refine wpAnyH_ready (rs := [10]) (by kernel_rfl) (by simp) ?_
    refine AllReadyH.cons (o := { dst := some 187, op := Go.Op.call { callee := Go.Callee.value (Go.Operand.func 33), args := #[Go.Operand.tmp 182, Go.Operand.tmp 186], argTypes := #[3, 3] }, type := 3, pos := "law.go:281", after := #[{ on := 5, ground := Go.Ground.data }, { on := 9, ground := Go.Ground.data }], guard := none }) rfl (fun Kc hK => ?_) AllReadyH.nil
    go_simp
    go_at_call 33
    refine (pick_any a N _ ha0 ha1 (by omega) (by omega)).mono ?_
    rw [HJ.out]
    rintro e w9 ⟨rfl, rfl⟩
    go_wp2_with fail
    refine hK.out _ _ HH.out (fun hHeld => ?_)
    clear hK Kc
    (try simp only [Act.put]); (try simp only [List.setIfInBounds_toArray]); (try simp only [List.set_cons_succ]); (try simp only [List.set_cons_zero])
    refine wpAnyH_take (i := 14) (oi := { dst := some 191, op := Go.Op.indexAddr 22 (Go.Operand.tmp 180) (Go.Operand.tmp 187), type := 0, pos := "law.go:281", after := #[{ on := 3, ground := Go.Ground.data }, { on := 10, ground := Go.Ground.data }, { on := 0, ground := Go.Ground.phase }, { on := 1, ground := Go.Ground.phase }, { on := 2, ground := Go.Ground.phase }, { on := 3, ground := Go.Ground.phase }, { on := 4, ground := Go.Ground.phase }, { on := 5, ground := Go.Ground.phase }, { on := 6, ground := Go.Ground.phase }, { on := 7, ground := Go.Ground.phase }, { on := 8, ground := Go.Ground.phase }, { on := 9, ground := Go.Ground.phase }, { on := 10, ground := Go.Ground.phase }, { on := 11, ground := Go.Ground.phase }, { on := 12, ground := Go.Ground.phase }, { on := 13, ground := Go.Ground.phase }], guard := none }) (v := ?v14wb14) rfl (by kernel_rfl) (by kernel_rfl) (by kernel_rfl) (fun _ _ _ h => h) (Or.inl ⟨by rfl, ?y14wb14⟩) (by assumption) ?r14wb14
    case y14wb14 => (intro w hSw; obtain ⟨s0, s1, s2, s3⟩ := hSw; go_simp; (try with_reducible rfl))
    (try simp only [Act.put]); (try simp only [List.setIfInBounds_toArray]); (try simp only [List.set_cons_succ]); (try simp only [List.set_cons_zero])
    refine wpAnyH_ready (rs := [15]) (by kernel_rfl) (by simp) ?_
    refine AllReadyH.cons (o := { dst := none, op := Go.Op.store 5 (Go.Operand.tmp 191) (Go.Operand.tmp 190), type := 0, pos := "law.go:281", after := #[{ on := 14, ground := Go.Ground.data }, { on := 13, ground := Go.Ground.data }, { on := 10, ground := Go.Ground.chain }, { on := 0, ground := Go.Ground.phase }, { on := 1, ground := Go.Ground.phase }, { on := 2, ground := Go.Ground.phase }, { on := 3, ground := Go.Ground.phase }, { on := 4, ground := Go.Ground.phase }, { on := 5, ground := Go.Ground.phase }, { on := 6, ground := Go.Ground.phase }, { on := 7, ground := Go.Ground.phase }, { on := 8, ground := Go.Ground.phase }, { on := 9, ground := Go.Ground.phase }, { on := 10, ground := Go.Ground.phase }, { on := 11, ground := Go.Ground.phase }, { on := 12, ground := Go.Ground.phase }, { on := 13, ground := Go.Ground.phase }], guard := none }) rfl (fun Kc hK => ?_) AllReadyH.nil
    go_simp
    refine hK.out _ _ ⟨HSet.out _ _ _ HBa.out.2.symm _ HH.out.1, HSet.out _ _ _ HBa.out.2.symm _ HH.out.2.1, HSet.out _ _ _ HBn.out.symm _ HH.out.2.2.1, HSet.out _ _ _ HBn.out.symm _ HH.out.2.2.2⟩ (fun hHeld => ?_)
    clear hK Kc
    (try simp only [Act.put]); (try simp only [List.setIfInBounds_toArray]); (try simp only [List.set_cons_succ]); (try simp only [List.set_cons_zero])
    refine wpAnyH_done (by kernel_rfl) ?_ _
    clear hHeld f0 f1 fu ff d0 d1 d2 d3 e0 e1 e2 e3 e4 e5
    go_wp2_with fail
    go_ret
    exact ⟨rfl, W'.drew, HK.out.drew, rfl⟩
end Go.Proofs.Ytomlndoffoeaiaa.Kit
