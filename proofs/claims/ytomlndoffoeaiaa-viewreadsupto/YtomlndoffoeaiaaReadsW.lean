import Derived.Test.YtomlndoffoeaiaaReadsX
namespace Go.Proofs.Ytomlndoffoeaiaa.Kit
open Go.RowKit Go.Deep
set_option linter.unusedVariables false

theorem infoW106 : (Try.prog.info? 106).map (fun i => (i.zero, i.size, i.bytes)) = some (some (.int .u32 0), 1, 4) := by kernel_rfl
theorem infoW46 : (Try.prog.info? 46).map (fun i => (i.zero, i.size, i.bytes)) = some (some (.int .u64 0), 1, 8) := by kernel_rfl
theorem NL.mid {B : Nat} {W Va w7 : World} {it et m : Nat} {cs : Array Value} {kd : IntKind} {mk : Nat → Int} {g N c i : Nat} {R : Nat → Value} {len : Nat → Nat} (h : NL B W it et kd mk (.slice (some ⟨g, 0, none⟩) N c) N R len) (hroom : W.heap[m]? = some (.cells cs 87 (0, 0))) (hi : i < N) (hne : it ≠ et) (h87 : 87 ≠ et) (hk : Keeps W Va (fun _ => False)) (hg : Va.grownBy w7 (R i).ownBlock) :
    w7.heap[m]? = some (.cells cs 87 (0, 0)) ∧ w7.cell? ⟨g, i, none⟩ = some (R i) ∧ w7.frozen? ⟨g, i, none⟩ = false := by
  have k7 : Keeps W w7 (fun b => (R i).ownBlock = some b) := (hk.mono fun _ _ f => f.elim).trans (Keeps.ofGrown hg) (fun _ _ h => h)
  obtain ⟨ys, h1, _⟩ := h.inner i hi
  have hty : ∀ b c t, W.heap[b]? = some (.cells c t (0, 0)) → t ≠ et → (R i).ownBlock ≠ some b := fun b c t hb ht e => by
    obtain ⟨c1, h2⟩ := own_ty h1 b e
    rw [hb] at h2
    simp at h2
    exact ht h2.2
  obtain ⟨co, hco⟩ := own_ty h.outer g rfl
  have ho7 : w7.ownsRow 0 it 1 (.slice (some ⟨g, 0, none⟩) N c) N ((List.range N).map R) := row_kp h.outer fun b e => by
    simp [Value.ownBlock] at e
    subst e
    exact k7.block g (own_lt h.outer g rfl) (hty g co it hco hne)
  refine ⟨(k7.block m (Array.getElem?_eq_some_iff.1 hroom).1 (hty m cs 87 hroom h87)).trans hroom, ?_, own_frz ho7 i⟩
  have h2 := ho7.cells (g := g) rfl i (R i) (by simp [hi])
  rwa [add_lit0] at h2
theorem src_num {W : World} (it et : Nat) (hu : Try.prog.underlying it = some (.slice et)) (u : Value) (h1 : u.oneCell' = true) : Src Try.prog 1 it (.slice (some ⟨W.heap.size, 0, none⟩) 1 1) 1 [u] (W.alloc (.cells #[u] et)).drew := by
  refine Src.ofSlice _ hu _ _ _ _ rfl ?_ (by simp [h1])
  intro j v hj
  match j, hj with
  | 0, hj => simp at hj; subst hj; simp [Addr.add]
theorem Ap.stp1 {B : Nat} {w W W' : World} {m : Nat} {cs : Array Value} {k1 k2 k4 k8 : Nat → Int} {v1 v2 v4 v8 : Value} {N1 N2 N4 N8 : Nat} {R1 R2 R4 R8 R : Nat → Value} {l1 l2 l4 l8 l : Nat → Nat} (h : Ap B w W m cs k1 k2 k4 k8 v1 v2 v4 v8 N1 N2 N4 N8 R1 R2 R4 R8 l1 l2 l4 l8)
    (q : NL B W' 22 5 .u8 k1 v1 N1 R l ∧ KT (fun t => t = 22 ∨ t = 5) W W' ∧ Keeps W W' (fun b => B ≤ b)) : Ap B w W' m cs k1 k2 k4 k8 v1 v2 v4 v8 N1 N2 N4 N8 R R2 R4 R8 l l2 l4 l8 := by
  obtain ⟨q1, q2, q3⟩ := q
  refine ⟨q1, h.n2.kept q2 (by omega) (by omega), h.n4.kept q2 (by omega) (by omega), h.n8.kept q2 (by omega) (by omega), (q2.block m (Array.getElem?_eq_some_iff.1 h.room).1 (fun c t f e => by rw [h.room] at e; cases e; omega)).trans h.room, h.kp.trans q3 (fun _ _ h => h), Nat.le_trans h.le q3.size⟩
theorem Ap.stp2 {B : Nat} {w W W' : World} {m : Nat} {cs : Array Value} {k1 k2 k4 k8 : Nat → Int} {v1 v2 v4 v8 : Value} {N1 N2 N4 N8 : Nat} {R1 R2 R4 R8 R : Nat → Value} {l1 l2 l4 l8 l : Nat → Nat} (h : Ap B w W m cs k1 k2 k4 k8 v1 v2 v4 v8 N1 N2 N4 N8 R1 R2 R4 R8 l1 l2 l4 l8)
    (q : NL B W' 103 104 .u16 k2 v2 N2 R l ∧ KT (fun t => t = 103 ∨ t = 104) W W' ∧ Keeps W W' (fun b => B ≤ b)) : Ap B w W' m cs k1 k2 k4 k8 v1 v2 v4 v8 N1 N2 N4 N8 R1 R R4 R8 l1 l l4 l8 := by
  obtain ⟨q1, q2, q3⟩ := q
  refine ⟨h.n1.kept q2 (by omega) (by omega), q1, h.n4.kept q2 (by omega) (by omega), h.n8.kept q2 (by omega) (by omega), (q2.block m (Array.getElem?_eq_some_iff.1 h.room).1 (fun c t f e => by rw [h.room] at e; cases e; omega)).trans h.room, h.kp.trans q3 (fun _ _ h => h), Nat.le_trans h.le q3.size⟩
theorem Ap.stp4 {B : Nat} {w W W' : World} {m : Nat} {cs : Array Value} {k1 k2 k4 k8 : Nat → Int} {v1 v2 v4 v8 : Value} {N1 N2 N4 N8 : Nat} {R1 R2 R4 R8 R : Nat → Value} {l1 l2 l4 l8 l : Nat → Nat} (h : Ap B w W m cs k1 k2 k4 k8 v1 v2 v4 v8 N1 N2 N4 N8 R1 R2 R4 R8 l1 l2 l4 l8)
    (q : NL B W' 105 106 .u32 k4 v4 N4 R l ∧ KT (fun t => t = 105 ∨ t = 106) W W' ∧ Keeps W W' (fun b => B ≤ b)) : Ap B w W' m cs k1 k2 k4 k8 v1 v2 v4 v8 N1 N2 N4 N8 R1 R2 R R8 l1 l2 l l8 := by
  obtain ⟨q1, q2, q3⟩ := q
  refine ⟨h.n1.kept q2 (by omega) (by omega), h.n2.kept q2 (by omega) (by omega), q1, h.n8.kept q2 (by omega) (by omega), (q2.block m (Array.getElem?_eq_some_iff.1 h.room).1 (fun c t f e => by rw [h.room] at e; cases e; omega)).trans h.room, h.kp.trans q3 (fun _ _ h => h), Nat.le_trans h.le q3.size⟩
theorem Ap.stp8 {B : Nat} {w W W' : World} {m : Nat} {cs : Array Value} {k1 k2 k4 k8 : Nat → Int} {v1 v2 v4 v8 : Value} {N1 N2 N4 N8 : Nat} {R1 R2 R4 R8 R : Nat → Value} {l1 l2 l4 l8 l : Nat → Nat} (h : Ap B w W m cs k1 k2 k4 k8 v1 v2 v4 v8 N1 N2 N4 N8 R1 R2 R4 R8 l1 l2 l4 l8)
    (q : NL B W' 107 46 .u64 k8 v8 N8 R l ∧ KT (fun t => t = 107 ∨ t = 46) W W' ∧ Keeps W W' (fun b => B ≤ b)) : Ap B w W' m cs k1 k2 k4 k8 v1 v2 v4 v8 N1 N2 N4 N8 R1 R2 R4 R l1 l2 l4 l := by
  obtain ⟨q1, q2, q3⟩ := q
  refine ⟨h.n1.kept q2 (by omega) (by omega), h.n2.kept q2 (by omega) (by omega), h.n4.kept q2 (by omega) (by omega), q1, (q2.block m (Array.getElem?_eq_some_iff.1 h.room).1 (fun c t f e => by rw [h.room] at e; cases e; omega)).trans h.room, h.kp.trans q3 (fun _ _ h => h), Nat.le_trans h.le q3.size⟩
set_option maxRecDepth 100000 in
set_option maxHeartbeats 400000000 in
theorem apart_any (B m : Nat) (cs : Array Value) (k1 k2 k4 k8 : Nat → Int) (o1 o2 o4 o8 : Option Addr) (c1 c2 c4 c8 N1 N2 N4 N8 : Nat) (R1 R2 R4 R8 : Nat → Value) (l1 l2 l4 l8 : Nat → Nat) (w : World)
    (h : Ap B w w m cs k1 k2 k4 k8 (.slice o1 N1 c1) (.slice o2 N2 c2) (.slice o4 N4 c4) (.slice o8 N8 c8) N1 N2 N4 N8 R1 R2 R4 R8 l1 l2 l4 l8)
    (hN : N1 ≤ 1000000000000 ∧ N2 ≤ 1000000000000 ∧ N4 ≤ 1000000000000 ∧ N8 ≤ 1000000000000)
    (e1 : cs[11]? = some (.slice o1 N1 c1)) (e2 : cs[12]? = some (.slice o2 N2 c2)) (e4 : cs[13]? = some (.slice o4 N4 c4)) (e8 : cs[14]? = some (.slice o8 N8 c8))
    (hk1 : ∀ i, k1 i = IntKind.u8.wrap ((i : Int) + 1)) (hk2 : ∀ i, k2 i = IntKind.u16.wrap ((i : Int) + 1)) (hk4 : ∀ i, k4 i = IntKind.u32.wrap ((i : Int) + 1)) (hk8 : ∀ i, k8 i = IntKind.u64.wrap ((i : Int) + 1))
    (b1 : ∀ i, i < N1 → l1 i ≤ 1000000000000) (b2 : ∀ i, i < N2 → l2 i ≤ 1000000000000) (b4 : ∀ i, i < N4 → l4 i ≤ 1000000000000) (b8 : ∀ i, i < N8 → l8 i ≤ 1000000000000) :
    Calls Try.prog 12 #[.pointer (some ⟨m, 0, none⟩)] w fun e w' => e = .returned (.bool true) ∧ Keeps w w' (fun b => B ≤ b) := by
  have HA := hidM h
  have HB1 := hidM b1
  have HB2 := hidM b2
  have HB4 := hidM b4
  have HB8 := hidM b8
  have HE1 := hidM e1
  have HE2 := hidM e2
  have HE4 := hidM e4
  have HE8 := hidM e8
  have HK1 := hidM hk1
  have HK2 := hidM hk2
  have HK4 := hidM hk4
  have HK8 := hidM hk8
  obtain ⟨hN1, hN2, hN4, hN8⟩ := hN
  clear h b1 b2 b4 b8 e1 e2 e4 e8 hk1 hk2 hk4 hk8
  go_enter Try.func12, Try.ntmps12
  go_wp2
  go_loopw [3] (fun p wr => ∃ k : Nat, k ≤ N1 ∧ p = .int .i64 (k : Int) ∧ ∃ R l, Hid (Ap B w wr m cs k1 k2 k4 k8 (.slice o1 N1 c1) (.slice o2 N2 c2) (.slice o4 N4 c4) (.slice o8 N8 c8) N1 N2 N4 N8 R R2 R4 R8 l l2 l4 l8 ∧ ∀ i, i < N1 → (k ≤ i → l i = l1 i))) (fun p _ => N1 - (intOf p).toNat)
  case atStart => exact ⟨0, by omega, rfl, R1, l1, HA.out, fun _ _ _ => rfl⟩
  case round =>
    obtain ⟨k, hk, rfl, R, l, HX⟩ := hrel
    have cm := HX.out.1.room' HE1.out
    obtain ⟨V, rfl⟩ : ∃ V, V = wr := ⟨_, rfl⟩
    by_cases hkn : k < N1
    · obtain ⟨g, ec, hv⟩ := own_some HX.out.1.n1.outer (by omega)
      simp only [Value.slice.injEq] at hv
      obtain ⟨rfl, -, rfl⟩ := hv
      have cg := HX.out.1.n1.cell hkn
      obtain ⟨xs, hx, hmk⟩ := HX.out.1.n1.inner k hkn
      obtain ⟨ro, rc, hro⟩ := ownN_form hx
      rw [hro] at cg hx
      have hkI : (k : Int) < (N1 : Int) := by omega
      obtain ⟨ll, hll⟩ : ∃ ll, ll = l k := ⟨_, rfl⟩
      rw [← hll] at cg hx hmk
      have h64 : IntKind.i64.wrap ((k : Int) + 1) = (k : Int) + 1 := by rw [IntKind.wrap_i64]; omega
      obtain ⟨z, hz⟩ : ∃ z, IntKind.u8.wrap ((k : Int) + 1) = z := ⟨_, rfl⟩
      have hkz : k1 k = z := (HK1.out k).trans hz
      have hllb : ll ≤ 1000000000000 := by rw [hll, HX.out.2 k hkn (Nat.le_refl _)]; exact HB1.out k hkn
      obtain ⟨V6, hV6⟩ : ∃ V6, V.alloc (.cells #[.int .u8 z] 5) = V6 := ⟨_, rfl⟩
      have hk6 : Keeps V V6.drew (fun _ => False) := by rw [← hV6]; exact ((Keeps.refl V _).alloc _).drew
      have cm6 : V6.cell? ⟨m, 11, none⟩ = some (.slice (some ⟨g, 0, none⟩) N1 c1) := hk6.cell' cm id
      have cg6 : V6.cell? ⟨g, k, none⟩ = some (.slice ro ll rc) := hk6.cell' cg id
      have HOw : Hid (V6.drew.ownsRow 0 5 1 (.slice ro ll rc) ll xs) := ownN_kept hx hk6 (fun _ _ h => h)
      have HSr : Hid (Src Try.prog 1 22 (.slice (some ⟨V.heap.size, 0, none⟩) 1 1) 1 [.int .u8 z] V6.drew) := by rw [← hV6]; exact src_num 22 5 Try.underlying22 _ rfl
      have HRm : Hid (∀ W : World, W.heap[m]? = some (.cells cs 87 (0, 0)) → W.cell? ⟨m, 11, none⟩ = some (.slice (some ⟨g, 0, none⟩) N1 c1)) := fun W hW => by rw [cell_of_row W m 11 _ 87 (0, 0) hW]; exact HE1.out
      have HMi : Hid (∀ w7 : World, V6.drew.grownBy w7 (Value.slice ro ll rc).ownBlock → w7.heap[m]? = some (.cells cs 87 (0, 0)) ∧ w7.cell? ⟨g, k, none⟩ = some (.slice ro ll rc) ∧ w7.frozen? ⟨g, k, none⟩ = false) := fun w7 hg => by
        have h1 := HX.out.1.n1.mid (w7 := w7) HX.out.1.room hkn (by decide) (by decide) hk6 (by rw [hro, ← hll]; exact hg)
        rw [hro, ← hll] at h1
        exact h1
      have HGo : Hid (∀ (w7 : World) (uo : Option Addr) (uc : Nat), w7.ownsRow 0 5 1 (.slice uo (ll + 1) uc) (ll + 1) (xs ++ [.int .u8 z]) → V6.drew.grownBy w7 (Value.slice ro ll rc).ownBlock → ((Value.slice uo (ll + 1) uc).ownBlock = (Value.slice ro ll rc).ownBlock ∨ ∀ g, (Value.slice uo (ll + 1) uc).ownBlock = some g → V6.drew.heap.size ≤ g) → Ap B w (w7.setCell ⟨g, k, none⟩ (.slice uo (ll + 1) uc)) m cs k1 k2 k4 k8 (.slice (some ⟨g, 0, none⟩) N1 c1) (.slice o2 N2 c2) (.slice o4 N4 c4) (.slice o8 N8 c8) N1 N2 N4 N8 (fun j => if j = k then .slice uo (ll + 1) uc else R j) R2 R4 R8 (fun j => if j = k then l k + 1 else l j) l2 l4 l8 ∧ ∀ i, i < N1 → (k + 1 ≤ i → (if i = k then l k + 1 else l i) = l1 i)) := fun w7 uo uc q1 q2 q3 => by
        refine ⟨HX.out.1.stp1 (HX.out.1.n1.app (xs := xs) HX.out.1.le hkn (by decide) hk6 (by rw [hro, ← hll]; exact hx) (fun j hj => by rw [hkz]; exact hmk j (by omega) |>.trans (by rw [hkz])) (by rw [hkz, ← hll]; exact q1) (by rw [hro, ← hll]; exact q2) (by rw [hro, ← hll]; exact q3)), fun i hi hki => ?_⟩
        rw [if_neg (by omega)]
        exact HX.out.2 i hi (by omega)
      clear hro hll hx hmk hk6
      go_wp2_with fail
      refine wp_region_held_drew (S := fun w' => w'.cell? ⟨m, 11, none⟩ = some (.slice (some ⟨g, 0, none⟩) N1 c1)) (by kernel_rfl) cm (fun hHeld => ?_)
      refine wpAnyH_take (i := 0) (oi := { dst := some 24, op := Go.Op.move (Go.Operand.tmp 0), type := 24, pos := "law.go:158", after := #[], guard := none }) (v := ?v0a11) rfl (by kernel_rfl) (by kernel_rfl) (by kernel_rfl) (fun _ _ _ h => h) (Or.inl ⟨by rfl, ?y0a11⟩) (by assumption) ?r0a11
      case y0a11 => (intro w hSw; go_simp; (try with_reducible rfl))
      (try simp only [Act.put]); (try simp only [List.setIfInBounds_toArray]); (try simp only [List.set_cons_succ]); (try simp only [List.set_cons_zero])
      refine wpAnyH_take (i := 1) (oi := { dst := some 25, op := Go.Op.nilCheck (Go.Operand.tmp 24), type := 0, pos := "law.go:158", after := #[{ on := 0, ground := Go.Ground.data }], guard := none }) (v := ?v1a12) rfl (by kernel_rfl) (by kernel_rfl) (by kernel_rfl) (fun _ _ _ h => h) (Or.inl ⟨by rfl, ?y1a12⟩) (by assumption) ?r1a12
      case y1a12 => (intro w hSw; go_simp; (try with_reducible rfl))
      (try simp only [Act.put]); (try simp only [List.setIfInBounds_toArray]); (try simp only [List.set_cons_succ]); (try simp only [List.set_cons_zero])
      refine wpAnyH_take (i := 2) (oi := { dst := some 26, op := Go.Op.fieldAddr 87 (Go.Operand.tmp 25) 7, type := 0, pos := "law.go:158", after := #[{ on := 1, ground := Go.Ground.data }], guard := none }) (v := ?v2a13) rfl (by kernel_rfl) (by kernel_rfl) (by kernel_rfl) (fun _ _ _ h => h) (Or.inl ⟨by rfl, ?y2a13⟩) (by assumption) ?r2a13
      case y2a13 => (intro w hSw; go_simp; (try with_reducible rfl))
      (try simp only [Act.put]); (try simp only [List.setIfInBounds_toArray]); (try simp only [List.set_cons_succ]); (try simp only [List.set_cons_zero])
      refine wpAnyH_take (i := 3) (oi := { dst := some 27, op := Go.Op.load 81 (Go.Operand.tmp 26), type := 81, pos := "law.go:158", after := #[{ on := 2, ground := Go.Ground.data }], guard := none }) (v := ?v3a14) rfl (by kernel_rfl) (by kernel_rfl) (by kernel_rfl) (fun _ _ _ h => h) (Or.inl ⟨by rfl, ?y3a14⟩) (by assumption) ?r3a14
      case y3a14 => (intro w hSw; go_simp; (try with_reducible rfl))
      (try simp only [Act.put]); (try simp only [List.setIfInBounds_toArray]); (try simp only [List.set_cons_succ]); (try simp only [List.set_cons_zero])
      refine wpAnyH_take (i := 4) (oi := { dst := some 28, op := Go.Op.move (Go.Operand.tmp 3), type := 3, pos := "law.go:158", after := #[], guard := none }) (v := ?v4a15) rfl (by kernel_rfl) (by kernel_rfl) (by kernel_rfl) (fun _ _ _ h => h) (Or.inl ⟨by rfl, ?y4a15⟩) (by assumption) ?r4a15
      case y4a15 => (intro w hSw; go_simp; (try with_reducible rfl))
      (try simp only [Act.put]); (try simp only [List.setIfInBounds_toArray]); (try simp only [List.set_cons_succ]); (try simp only [List.set_cons_zero])
      refine wpAnyH_take (i := 5) (oi := { dst := some 29, op := Go.Op.move (Go.Operand.tmp 0), type := 24, pos := "law.go:158", after := #[], guard := none }) (v := ?v5a16) rfl (by kernel_rfl) (by kernel_rfl) (by kernel_rfl) (fun _ _ _ h => h) (Or.inl ⟨by rfl, ?y5a16⟩) (by assumption) ?r5a16
      case y5a16 => (intro w hSw; go_simp; (try with_reducible rfl))
      (try simp only [Act.put]); (try simp only [List.setIfInBounds_toArray]); (try simp only [List.set_cons_succ]); (try simp only [List.set_cons_zero])
      refine wpAnyH_take (i := 6) (oi := { dst := some 30, op := Go.Op.nilCheck (Go.Operand.tmp 29), type := 0, pos := "law.go:158", after := #[{ on := 5, ground := Go.Ground.data }], guard := none }) (v := ?v6a17) rfl (by kernel_rfl) (by kernel_rfl) (by kernel_rfl) (fun _ _ _ h => h) (Or.inl ⟨by rfl, ?y6a17⟩) (by assumption) ?r6a17
      case y6a17 => (intro w hSw; go_simp; (try with_reducible rfl))
      (try simp only [Act.put]); (try simp only [List.setIfInBounds_toArray]); (try simp only [List.set_cons_succ]); (try simp only [List.set_cons_zero])
      refine wpAnyH_take (i := 7) (oi := { dst := some 31, op := Go.Op.fieldAddr 87 (Go.Operand.tmp 30) 7, type := 0, pos := "law.go:158", after := #[{ on := 6, ground := Go.Ground.data }], guard := none }) (v := ?v7a18) rfl (by kernel_rfl) (by kernel_rfl) (by kernel_rfl) (fun _ _ _ h => h) (Or.inl ⟨by rfl, ?y7a18⟩) (by assumption) ?r7a18
      case y7a18 => (intro w hSw; go_simp; (try with_reducible rfl))
      (try simp only [Act.put]); (try simp only [List.setIfInBounds_toArray]); (try simp only [List.set_cons_succ]); (try simp only [List.set_cons_zero])
      refine wpAnyH_take (i := 8) (oi := { dst := some 32, op := Go.Op.load 81 (Go.Operand.tmp 31), type := 81, pos := "law.go:158", after := #[{ on := 7, ground := Go.Ground.data }], guard := none }) (v := ?v8a19) rfl (by kernel_rfl) (by kernel_rfl) (by kernel_rfl) (fun _ _ _ h => h) (Or.inl ⟨by rfl, ?y8a19⟩) (by assumption) ?r8a19
      case y8a19 => (intro w hSw; go_simp; (try with_reducible rfl))
      (try simp only [Act.put]); (try simp only [List.setIfInBounds_toArray]); (try simp only [List.set_cons_succ]); (try simp only [List.set_cons_zero])
      refine wpAnyH_take (i := 9) (oi := { dst := some 33, op := Go.Op.move (Go.Operand.tmp 3), type := 3, pos := "law.go:158", after := #[], guard := none }) (v := ?v9a110) rfl (by kernel_rfl) (by kernel_rfl) (by kernel_rfl) (fun _ _ _ h => h) (Or.inl ⟨by rfl, ?y9a110⟩) (by assumption) ?r9a110
      case y9a110 => (intro w hSw; go_simp; (try with_reducible rfl))
      (try simp only [Act.put]); (try simp only [List.setIfInBounds_toArray]); (try simp only [List.set_cons_succ]); (try simp only [List.set_cons_zero])
      refine wpAnyH_take (i := 10) (oi := { dst := some 34, op := Go.Op.indexAddr 81 (Go.Operand.tmp 32) (Go.Operand.tmp 33), type := 0, pos := "law.go:158", after := #[{ on := 8, ground := Go.Ground.data }, { on := 9, ground := Go.Ground.data }], guard := none }) (v := ?v10a111) rfl (by kernel_rfl) (by kernel_rfl) (by kernel_rfl) (fun _ _ _ h => h) (Or.inl ⟨by rfl, ?y10a111⟩) (by assumption) ?r10a111
      case y10a111 => (intro w hSw; go_simp; (try with_reducible rfl))
      (try simp only [Act.put]); (try simp only [List.setIfInBounds_toArray]); (try simp only [List.set_cons_succ]); (try simp only [List.set_cons_zero])
      refine wpAnyH_take (i := 12) (oi := { dst := some 36, op := Go.Op.move (Go.Operand.tmp 3), type := 3, pos := "law.go:158", after := #[], guard := none }) (v := ?v12a112) rfl (by kernel_rfl) (by kernel_rfl) (by kernel_rfl) (fun _ _ _ h => h) (Or.inl ⟨by rfl, ?y12a112⟩) (by assumption) ?r12a112
      case y12a112 => (intro w hSw; go_simp; (try with_reducible rfl))
      (try simp only [Act.put]); (try simp only [List.setIfInBounds_toArray]); (try simp only [List.set_cons_succ]); (try simp only [List.set_cons_zero])
      refine wpAnyH_take (i := 13) (oi := { dst := some 37, op := Go.Op.binOp Go.BinOp.add 3 (Go.Operand.tmp 36) (Go.Operand.const (Go.Value.int Go.IntKind.i64 1)) 3, type := 3, pos := "law.go:158", after := #[{ on := 12, ground := Go.Ground.data }], guard := none }) (v := ?v13a113) rfl (by kernel_rfl) (by kernel_rfl) (by kernel_rfl) (fun _ _ _ h => h) (Or.inl ⟨by rfl, ?y13a113⟩) (by assumption) ?r13a113
      case y13a113 => (intro w hSw; go_simp; (try with_reducible rfl))
      (try simp only [Act.put]); (try simp only [List.setIfInBounds_toArray]); (try simp only [List.set_cons_succ]); (try simp only [List.set_cons_zero])
      refine wpAnyH_take (i := 14) (oi := { dst := some 38, op := Go.Op.convert 3 5 (Go.Operand.tmp 37), type := 5, pos := "law.go:158", after := #[{ on := 13, ground := Go.Ground.data }], guard := none }) (v := ?v14a114) rfl (by kernel_rfl) (by kernel_rfl) (by kernel_rfl) (fun _ _ _ h => h) (Or.inl ⟨by rfl, ?y14a114⟩) (by assumption) ?r14a114
      case y14a114 => (intro w hSw; go_simp; (try with_reducible rfl))
      (try simp only [Act.put]); (try simp only [List.setIfInBounds_toArray]); (try simp only [List.set_cons_succ]); (try simp only [List.set_cons_zero])
      refine wpAnyH_ready (rs := [11, 15]) (by kernel_rfl) (by simp) ?_
      refine AllReadyH.cons (o := { dst := some 35, op := Go.Op.load 22 (Go.Operand.tmp 34), type := 22, pos := "law.go:158", after := #[{ on := 10, ground := Go.Ground.data }], guard := none }) rfl (fun Kc hK => ?_) (AllReadyH.cons (o := { dst := some 39, op := Go.Op.buildSlice 22 1 #[(0, Go.Operand.tmp 38)], type := 22, pos := "law.go:158", after := #[{ on := 14, ground := Go.Ground.data }], guard := none }) rfl (fun Kc hK => ?_) AllReadyH.nil)
      · go_simp
        refine hK.out _ _ cm (fun hHeld => ?_)
        clear hK Kc
        (try simp only [Act.put]); (try simp only [List.setIfInBounds_toArray]); (try simp only [List.set_cons_succ]); (try simp only [List.set_cons_zero])
        refine wpAnyH_ready (rs := [15]) (by kernel_rfl) (by simp) ?_
        refine AllReadyH.cons (o := { dst := some 39, op := Go.Op.buildSlice 22 1 #[(0, Go.Operand.tmp 38)], type := 22, pos := "law.go:158", after := #[{ on := 14, ground := Go.Ground.data }], guard := none }) rfl (fun Kc hK => ?_) AllReadyH.nil
        go_simp
        refine hK.out _ _ cm6 (fun hHeld => ?_)
        clear hK Kc
        (try simp only [Act.put]); (try simp only [List.setIfInBounds_toArray]); (try simp only [List.set_cons_succ]); (try simp only [List.set_cons_zero])
        refine wpAnyH_ready (rs := [16]) (by kernel_rfl) (by simp) ?_
        refine AllReadyH.cons (o := { dst := some 40, op := Go.Op.call { callee := Go.Callee.builtin Go.Builtin.append, args := #[Go.Operand.tmp 35, Go.Operand.tmp 39], argTypes := #[22, 22] }, type := 22, pos := "law.go:158", after := #[{ on := 11, ground := Go.Ground.data }, { on := 15, ground := Go.Ground.data }], guard := none }) rfl (fun Kc hK => ?_) AllReadyH.nil
        refine step_append_any (P := Try.prog) _ rfl (.tmp 35) (.tmp 39) 22 22 rfl 5 (.int .u8 0) 1 Try.underlying22 info5 rfl (.slice ro ll rc) ll xs rfl HOw.out (.slice (some ⟨V.heap.size, 0, none⟩) 1 1) 1 [.int .u8 z] rfl HSr.out (by omega) (by omega) ?_
        intro v' w7 ha1 ha2 ha3
        obtain ⟨uo, uc, rfl⟩ := ownN_form ha1
        have HAp := hidM (HGo.out w7 uo uc ha1 ha2 ha3)
        obtain ⟨p0, p1, p2⟩ := HMi.out w7 ha2
        have HP0 := hidM p0
        clear ha1 ha2 ha3 p0
        refine hK.out _ _ (HRm.out w7 HP0.out) (fun hHeld => ?_)
        clear hK Kc
        (try simp only [Act.put]); (try simp only [List.setIfInBounds_toArray]); (try simp only [List.set_cons_succ]); (try simp only [List.set_cons_zero])
        refine wpAnyH_take (i := 17) (oi := { dst := some 41, op := Go.Op.indexAddr 81 (Go.Operand.tmp 27) (Go.Operand.tmp 28), type := 0, pos := "law.go:158", after := #[{ on := 3, ground := Go.Ground.data }, { on := 4, ground := Go.Ground.data }, { on := 0, ground := Go.Ground.phase }, { on := 1, ground := Go.Ground.phase }, { on := 2, ground := Go.Ground.phase }, { on := 3, ground := Go.Ground.phase }, { on := 4, ground := Go.Ground.phase }, { on := 5, ground := Go.Ground.phase }, { on := 6, ground := Go.Ground.phase }, { on := 7, ground := Go.Ground.phase }, { on := 8, ground := Go.Ground.phase }, { on := 9, ground := Go.Ground.phase }, { on := 10, ground := Go.Ground.phase }, { on := 11, ground := Go.Ground.phase }, { on := 12, ground := Go.Ground.phase }, { on := 13, ground := Go.Ground.phase }, { on := 14, ground := Go.Ground.phase }, { on := 15, ground := Go.Ground.phase }, { on := 16, ground := Go.Ground.phase }], guard := none }) (v := ?v17c11) rfl (by kernel_rfl) (by kernel_rfl) (by kernel_rfl) (fun _ _ _ h => h) (Or.inl ⟨by rfl, ?y17c11⟩) (by assumption) ?r17c11
        case y17c11 => (intro w hSw; go_simp; (try with_reducible rfl))
        (try simp only [Act.put]); (try simp only [List.setIfInBounds_toArray]); (try simp only [List.set_cons_succ]); (try simp only [List.set_cons_zero])
        refine wpAnyH_ready (rs := [18]) (by kernel_rfl) (by simp) ?_
        refine AllReadyH.cons (o := { dst := none, op := Go.Op.store 22 (Go.Operand.tmp 41) (Go.Operand.tmp 40), type := 0, pos := "law.go:158", after := #[{ on := 17, ground := Go.Ground.data }, { on := 16, ground := Go.Ground.data }, { on := 16, ground := Go.Ground.chain }, { on := 0, ground := Go.Ground.phase }, { on := 1, ground := Go.Ground.phase }, { on := 2, ground := Go.Ground.phase }, { on := 3, ground := Go.Ground.phase }, { on := 4, ground := Go.Ground.phase }, { on := 5, ground := Go.Ground.phase }, { on := 6, ground := Go.Ground.phase }, { on := 7, ground := Go.Ground.phase }, { on := 8, ground := Go.Ground.phase }, { on := 9, ground := Go.Ground.phase }, { on := 10, ground := Go.Ground.phase }, { on := 11, ground := Go.Ground.phase }, { on := 12, ground := Go.Ground.phase }, { on := 13, ground := Go.Ground.phase }, { on := 14, ground := Go.Ground.phase }, { on := 15, ground := Go.Ground.phase }, { on := 16, ground := Go.Ground.phase }], guard := none }) rfl (fun Kc hK => ?_) AllReadyH.nil
        go_simp
        refine hK.out _ _ (HRm.out _ HAp.out.1.room) (fun hHeld => ?_)
        clear hK Kc
        (try simp only [Act.put]); (try simp only [List.setIfInBounds_toArray]); (try simp only [List.set_cons_succ]); (try simp only [List.set_cons_zero])
        refine wpAnyH_done (by kernel_rfl) ?_ _
        go_wp2_with fail
        exact ⟨⟨k + 1, by omega, by simp, _, _, HAp.out⟩, by simp [intOf]; omega⟩
      · go_simp
        refine hK.out _ _ cm6 (fun hHeld => ?_)
        clear hK Kc
        (try simp only [Act.put]); (try simp only [List.setIfInBounds_toArray]); (try simp only [List.set_cons_succ]); (try simp only [List.set_cons_zero])
        refine wpAnyH_ready (rs := [11]) (by kernel_rfl) (by simp) ?_
        refine AllReadyH.cons (o := { dst := some 35, op := Go.Op.load 22 (Go.Operand.tmp 34), type := 22, pos := "law.go:158", after := #[{ on := 10, ground := Go.Ground.data }], guard := none }) rfl (fun Kc hK => ?_) AllReadyH.nil
        go_simp
        refine hK.out _ _ cm6 (fun hHeld => ?_)
        clear hK Kc
        (try simp only [Act.put]); (try simp only [List.setIfInBounds_toArray]); (try simp only [List.set_cons_succ]); (try simp only [List.set_cons_zero])
        refine wpAnyH_ready (rs := [16]) (by kernel_rfl) (by simp) ?_
        refine AllReadyH.cons (o := { dst := some 40, op := Go.Op.call { callee := Go.Callee.builtin Go.Builtin.append, args := #[Go.Operand.tmp 35, Go.Operand.tmp 39], argTypes := #[22, 22] }, type := 22, pos := "law.go:158", after := #[{ on := 11, ground := Go.Ground.data }, { on := 15, ground := Go.Ground.data }], guard := none }) rfl (fun Kc hK => ?_) AllReadyH.nil
        refine step_append_any (P := Try.prog) _ rfl (.tmp 35) (.tmp 39) 22 22 rfl 5 (.int .u8 0) 1 Try.underlying22 info5 rfl (.slice ro ll rc) ll xs rfl HOw.out (.slice (some ⟨V.heap.size, 0, none⟩) 1 1) 1 [.int .u8 z] rfl HSr.out (by omega) (by omega) ?_
        intro v' w7 ha1 ha2 ha3
        obtain ⟨uo, uc, rfl⟩ := ownN_form ha1
        have HAp := hidM (HGo.out w7 uo uc ha1 ha2 ha3)
        obtain ⟨p0, p1, p2⟩ := HMi.out w7 ha2
        have HP0 := hidM p0
        clear ha1 ha2 ha3 p0
        refine hK.out _ _ (HRm.out w7 HP0.out) (fun hHeld => ?_)
        clear hK Kc
        (try simp only [Act.put]); (try simp only [List.setIfInBounds_toArray]); (try simp only [List.set_cons_succ]); (try simp only [List.set_cons_zero])
        refine wpAnyH_take (i := 17) (oi := { dst := some 41, op := Go.Op.indexAddr 81 (Go.Operand.tmp 27) (Go.Operand.tmp 28), type := 0, pos := "law.go:158", after := #[{ on := 3, ground := Go.Ground.data }, { on := 4, ground := Go.Ground.data }, { on := 0, ground := Go.Ground.phase }, { on := 1, ground := Go.Ground.phase }, { on := 2, ground := Go.Ground.phase }, { on := 3, ground := Go.Ground.phase }, { on := 4, ground := Go.Ground.phase }, { on := 5, ground := Go.Ground.phase }, { on := 6, ground := Go.Ground.phase }, { on := 7, ground := Go.Ground.phase }, { on := 8, ground := Go.Ground.phase }, { on := 9, ground := Go.Ground.phase }, { on := 10, ground := Go.Ground.phase }, { on := 11, ground := Go.Ground.phase }, { on := 12, ground := Go.Ground.phase }, { on := 13, ground := Go.Ground.phase }, { on := 14, ground := Go.Ground.phase }, { on := 15, ground := Go.Ground.phase }, { on := 16, ground := Go.Ground.phase }], guard := none }) (v := ?v17e11) rfl (by kernel_rfl) (by kernel_rfl) (by kernel_rfl) (fun _ _ _ h => h) (Or.inl ⟨by rfl, ?y17e11⟩) (by assumption) ?r17e11
        case y17e11 => (intro w hSw; go_simp; (try with_reducible rfl))
        (try simp only [Act.put]); (try simp only [List.setIfInBounds_toArray]); (try simp only [List.set_cons_succ]); (try simp only [List.set_cons_zero])
        refine wpAnyH_ready (rs := [18]) (by kernel_rfl) (by simp) ?_
        refine AllReadyH.cons (o := { dst := none, op := Go.Op.store 22 (Go.Operand.tmp 41) (Go.Operand.tmp 40), type := 0, pos := "law.go:158", after := #[{ on := 17, ground := Go.Ground.data }, { on := 16, ground := Go.Ground.data }, { on := 16, ground := Go.Ground.chain }, { on := 0, ground := Go.Ground.phase }, { on := 1, ground := Go.Ground.phase }, { on := 2, ground := Go.Ground.phase }, { on := 3, ground := Go.Ground.phase }, { on := 4, ground := Go.Ground.phase }, { on := 5, ground := Go.Ground.phase }, { on := 6, ground := Go.Ground.phase }, { on := 7, ground := Go.Ground.phase }, { on := 8, ground := Go.Ground.phase }, { on := 9, ground := Go.Ground.phase }, { on := 10, ground := Go.Ground.phase }, { on := 11, ground := Go.Ground.phase }, { on := 12, ground := Go.Ground.phase }, { on := 13, ground := Go.Ground.phase }, { on := 14, ground := Go.Ground.phase }, { on := 15, ground := Go.Ground.phase }, { on := 16, ground := Go.Ground.phase }], guard := none }) rfl (fun Kc hK => ?_) AllReadyH.nil
        go_simp
        refine hK.out _ _ (HRm.out _ HAp.out.1.room) (fun hHeld => ?_)
        clear hK Kc
        (try simp only [Act.put]); (try simp only [List.setIfInBounds_toArray]); (try simp only [List.set_cons_succ]); (try simp only [List.set_cons_zero])
        refine wpAnyH_done (by kernel_rfl) ?_ _
        go_wp2_with fail
        exact ⟨⟨k + 1, by omega, by simp, _, _, HAp.out⟩, by simp [intOf]; omega⟩
    · have hkn' : N1 = k := by omega
      subst hkn'
      obtain ⟨S1, rfl⟩ : ∃ S1, S1 = R := ⟨_, rfl⟩
      obtain ⟨p1, rfl⟩ : ∃ p1, p1 = l := ⟨_, rfl⟩
      replace HA := hidM HX.out.1
      clear HX hk hkn
      go_wp2_with fail
      clear cm
      go_loopw [4] (fun p wr => ∃ k : Nat, k ≤ N2 ∧ p = .int .i64 (k : Int) ∧ ∃ R l, Hid (Ap B w wr m cs k1 k2 k4 k8 (.slice o1 N1 c1) (.slice o2 N2 c2) (.slice o4 N4 c4) (.slice o8 N8 c8) N1 N2 N4 N8 S1 R R4 R8 p1 l l4 l8 ∧ ∀ i, i < N2 → (k ≤ i → l i = l2 i))) (fun p _ => N2 - (intOf p).toNat)
      case atStart => exact ⟨0, by omega, rfl, R2, l2, HA.out, fun _ _ _ => rfl⟩
      case round =>
        obtain ⟨k, hk, rfl, R, l, HX⟩ := hrel
        have cm := HX.out.1.room' HE2.out
        obtain ⟨V, rfl⟩ : ∃ V, V = wr := ⟨_, rfl⟩
        by_cases hkn : k < N2
        · obtain ⟨g, ec, hv⟩ := own_some HX.out.1.n2.outer (by omega)
          simp only [Value.slice.injEq] at hv
          obtain ⟨rfl, -, rfl⟩ := hv
          have cg := HX.out.1.n2.cell hkn
          obtain ⟨xs, hx, hmk⟩ := HX.out.1.n2.inner k hkn
          obtain ⟨ro, rc, hro⟩ := ownN_form hx
          rw [hro] at cg hx
          have hkI : (k : Int) < (N2 : Int) := by omega
          obtain ⟨ll, hll⟩ : ∃ ll, ll = l k := ⟨_, rfl⟩
          rw [← hll] at cg hx hmk
          have h64 : IntKind.i64.wrap ((k : Int) + 1) = (k : Int) + 1 := by rw [IntKind.wrap_i64]; omega
          obtain ⟨z, hz⟩ : ∃ z, IntKind.u16.wrap ((k : Int) + 1) = z := ⟨_, rfl⟩
          have hkz : k2 k = z := (HK2.out k).trans hz
          have hllb : ll ≤ 1000000000000 := by rw [hll, HX.out.2 k hkn (Nat.le_refl _)]; exact HB2.out k hkn
          obtain ⟨V6, hV6⟩ : ∃ V6, V.alloc (.cells #[.int .u16 z] 104) = V6 := ⟨_, rfl⟩
          have hk6 : Keeps V V6.drew (fun _ => False) := by rw [← hV6]; exact ((Keeps.refl V _).alloc _).drew
          have cm6 : V6.cell? ⟨m, 12, none⟩ = some (.slice (some ⟨g, 0, none⟩) N2 c2) := hk6.cell' cm id
          have cg6 : V6.cell? ⟨g, k, none⟩ = some (.slice ro ll rc) := hk6.cell' cg id
          have HOw : Hid (V6.drew.ownsRow 0 104 1 (.slice ro ll rc) ll xs) := ownN_kept hx hk6 (fun _ _ h => h)
          have HSr : Hid (Src Try.prog 1 103 (.slice (some ⟨V.heap.size, 0, none⟩) 1 1) 1 [.int .u16 z] V6.drew) := by rw [← hV6]; exact src_num 103 104 Try.underlying103 _ rfl
          have HRm : Hid (∀ W : World, W.heap[m]? = some (.cells cs 87 (0, 0)) → W.cell? ⟨m, 12, none⟩ = some (.slice (some ⟨g, 0, none⟩) N2 c2)) := fun W hW => by rw [cell_of_row W m 12 _ 87 (0, 0) hW]; exact HE2.out
          have HMi : Hid (∀ w7 : World, V6.drew.grownBy w7 (Value.slice ro ll rc).ownBlock → w7.heap[m]? = some (.cells cs 87 (0, 0)) ∧ w7.cell? ⟨g, k, none⟩ = some (.slice ro ll rc) ∧ w7.frozen? ⟨g, k, none⟩ = false) := fun w7 hg => by
            have h1 := HX.out.1.n2.mid (w7 := w7) HX.out.1.room hkn (by decide) (by decide) hk6 (by rw [hro, ← hll]; exact hg)
            rw [hro, ← hll] at h1
            exact h1
          have HGo : Hid (∀ (w7 : World) (uo : Option Addr) (uc : Nat), w7.ownsRow 0 104 1 (.slice uo (ll + 1) uc) (ll + 1) (xs ++ [.int .u16 z]) → V6.drew.grownBy w7 (Value.slice ro ll rc).ownBlock → ((Value.slice uo (ll + 1) uc).ownBlock = (Value.slice ro ll rc).ownBlock ∨ ∀ g, (Value.slice uo (ll + 1) uc).ownBlock = some g → V6.drew.heap.size ≤ g) → Ap B w (w7.setCell ⟨g, k, none⟩ (.slice uo (ll + 1) uc)) m cs k1 k2 k4 k8 (.slice o1 N1 c1) (.slice (some ⟨g, 0, none⟩) N2 c2) (.slice o4 N4 c4) (.slice o8 N8 c8) N1 N2 N4 N8 S1 (fun j => if j = k then .slice uo (ll + 1) uc else R j) R4 R8 p1 (fun j => if j = k then l k + 1 else l j) l4 l8 ∧ ∀ i, i < N2 → (k + 1 ≤ i → (if i = k then l k + 1 else l i) = l2 i)) := fun w7 uo uc q1 q2 q3 => by
            refine ⟨HX.out.1.stp2 (HX.out.1.n2.app (xs := xs) HX.out.1.le hkn (by decide) hk6 (by rw [hro, ← hll]; exact hx) (fun j hj => by rw [hkz]; exact hmk j (by omega) |>.trans (by rw [hkz])) (by rw [hkz, ← hll]; exact q1) (by rw [hro, ← hll]; exact q2) (by rw [hro, ← hll]; exact q3)), fun i hi hki => ?_⟩
            rw [if_neg (by omega)]
            exact HX.out.2 i hi (by omega)
          clear hro hll hx hmk hk6
          go_wp2_with fail
          refine wp_region_held_drew (S := fun w' => w'.cell? ⟨m, 12, none⟩ = some (.slice (some ⟨g, 0, none⟩) N2 c2)) (by kernel_rfl) cm (fun hHeld => ?_)
          refine wpAnyH_take (i := 0) (oi := { dst := some 51, op := Go.Op.move (Go.Operand.tmp 0), type := 24, pos := "law.go:161", after := #[], guard := none }) (v := ?v0a21) rfl (by kernel_rfl) (by kernel_rfl) (by kernel_rfl) (fun _ _ _ h => h) (Or.inl ⟨by rfl, ?y0a21⟩) (by assumption) ?r0a21
          case y0a21 => (intro w hSw; go_simp; (try with_reducible rfl))
          (try simp only [Act.put]); (try simp only [List.setIfInBounds_toArray]); (try simp only [List.set_cons_succ]); (try simp only [List.set_cons_zero])
          refine wpAnyH_take (i := 1) (oi := { dst := some 52, op := Go.Op.nilCheck (Go.Operand.tmp 51), type := 0, pos := "law.go:161", after := #[{ on := 0, ground := Go.Ground.data }], guard := none }) (v := ?v1a22) rfl (by kernel_rfl) (by kernel_rfl) (by kernel_rfl) (fun _ _ _ h => h) (Or.inl ⟨by rfl, ?y1a22⟩) (by assumption) ?r1a22
          case y1a22 => (intro w hSw; go_simp; (try with_reducible rfl))
          (try simp only [Act.put]); (try simp only [List.setIfInBounds_toArray]); (try simp only [List.set_cons_succ]); (try simp only [List.set_cons_zero])
          refine wpAnyH_take (i := 2) (oi := { dst := some 53, op := Go.Op.fieldAddr 87 (Go.Operand.tmp 52) 8, type := 0, pos := "law.go:161", after := #[{ on := 1, ground := Go.Ground.data }], guard := none }) (v := ?v2a23) rfl (by kernel_rfl) (by kernel_rfl) (by kernel_rfl) (fun _ _ _ h => h) (Or.inl ⟨by rfl, ?y2a23⟩) (by assumption) ?r2a23
          case y2a23 => (intro w hSw; go_simp; (try with_reducible rfl))
          (try simp only [Act.put]); (try simp only [List.setIfInBounds_toArray]); (try simp only [List.set_cons_succ]); (try simp only [List.set_cons_zero])
          refine wpAnyH_take (i := 3) (oi := { dst := some 54, op := Go.Op.load 83 (Go.Operand.tmp 53), type := 83, pos := "law.go:161", after := #[{ on := 2, ground := Go.Ground.data }], guard := none }) (v := ?v3a24) rfl (by kernel_rfl) (by kernel_rfl) (by kernel_rfl) (fun _ _ _ h => h) (Or.inl ⟨by rfl, ?y3a24⟩) (by assumption) ?r3a24
          case y3a24 => (intro w hSw; go_simp; (try with_reducible rfl))
          (try simp only [Act.put]); (try simp only [List.setIfInBounds_toArray]); (try simp only [List.set_cons_succ]); (try simp only [List.set_cons_zero])
          refine wpAnyH_take (i := 4) (oi := { dst := some 55, op := Go.Op.move (Go.Operand.tmp 4), type := 3, pos := "law.go:161", after := #[], guard := none }) (v := ?v4a25) rfl (by kernel_rfl) (by kernel_rfl) (by kernel_rfl) (fun _ _ _ h => h) (Or.inl ⟨by rfl, ?y4a25⟩) (by assumption) ?r4a25
          case y4a25 => (intro w hSw; go_simp; (try with_reducible rfl))
          (try simp only [Act.put]); (try simp only [List.setIfInBounds_toArray]); (try simp only [List.set_cons_succ]); (try simp only [List.set_cons_zero])
          refine wpAnyH_take (i := 5) (oi := { dst := some 56, op := Go.Op.move (Go.Operand.tmp 0), type := 24, pos := "law.go:161", after := #[], guard := none }) (v := ?v5a26) rfl (by kernel_rfl) (by kernel_rfl) (by kernel_rfl) (fun _ _ _ h => h) (Or.inl ⟨by rfl, ?y5a26⟩) (by assumption) ?r5a26
          case y5a26 => (intro w hSw; go_simp; (try with_reducible rfl))
          (try simp only [Act.put]); (try simp only [List.setIfInBounds_toArray]); (try simp only [List.set_cons_succ]); (try simp only [List.set_cons_zero])
          refine wpAnyH_take (i := 6) (oi := { dst := some 57, op := Go.Op.nilCheck (Go.Operand.tmp 56), type := 0, pos := "law.go:161", after := #[{ on := 5, ground := Go.Ground.data }], guard := none }) (v := ?v6a27) rfl (by kernel_rfl) (by kernel_rfl) (by kernel_rfl) (fun _ _ _ h => h) (Or.inl ⟨by rfl, ?y6a27⟩) (by assumption) ?r6a27
          case y6a27 => (intro w hSw; go_simp; (try with_reducible rfl))
          (try simp only [Act.put]); (try simp only [List.setIfInBounds_toArray]); (try simp only [List.set_cons_succ]); (try simp only [List.set_cons_zero])
          refine wpAnyH_take (i := 7) (oi := { dst := some 58, op := Go.Op.fieldAddr 87 (Go.Operand.tmp 57) 8, type := 0, pos := "law.go:161", after := #[{ on := 6, ground := Go.Ground.data }], guard := none }) (v := ?v7a28) rfl (by kernel_rfl) (by kernel_rfl) (by kernel_rfl) (fun _ _ _ h => h) (Or.inl ⟨by rfl, ?y7a28⟩) (by assumption) ?r7a28
          case y7a28 => (intro w hSw; go_simp; (try with_reducible rfl))
          (try simp only [Act.put]); (try simp only [List.setIfInBounds_toArray]); (try simp only [List.set_cons_succ]); (try simp only [List.set_cons_zero])
          refine wpAnyH_take (i := 8) (oi := { dst := some 59, op := Go.Op.load 83 (Go.Operand.tmp 58), type := 83, pos := "law.go:161", after := #[{ on := 7, ground := Go.Ground.data }], guard := none }) (v := ?v8a29) rfl (by kernel_rfl) (by kernel_rfl) (by kernel_rfl) (fun _ _ _ h => h) (Or.inl ⟨by rfl, ?y8a29⟩) (by assumption) ?r8a29
          case y8a29 => (intro w hSw; go_simp; (try with_reducible rfl))
          (try simp only [Act.put]); (try simp only [List.setIfInBounds_toArray]); (try simp only [List.set_cons_succ]); (try simp only [List.set_cons_zero])
          refine wpAnyH_take (i := 9) (oi := { dst := some 60, op := Go.Op.move (Go.Operand.tmp 4), type := 3, pos := "law.go:161", after := #[], guard := none }) (v := ?v9a210) rfl (by kernel_rfl) (by kernel_rfl) (by kernel_rfl) (fun _ _ _ h => h) (Or.inl ⟨by rfl, ?y9a210⟩) (by assumption) ?r9a210
          case y9a210 => (intro w hSw; go_simp; (try with_reducible rfl))
          (try simp only [Act.put]); (try simp only [List.setIfInBounds_toArray]); (try simp only [List.set_cons_succ]); (try simp only [List.set_cons_zero])
          refine wpAnyH_take (i := 10) (oi := { dst := some 61, op := Go.Op.indexAddr 83 (Go.Operand.tmp 59) (Go.Operand.tmp 60), type := 0, pos := "law.go:161", after := #[{ on := 8, ground := Go.Ground.data }, { on := 9, ground := Go.Ground.data }], guard := none }) (v := ?v10a211) rfl (by kernel_rfl) (by kernel_rfl) (by kernel_rfl) (fun _ _ _ h => h) (Or.inl ⟨by rfl, ?y10a211⟩) (by assumption) ?r10a211
          case y10a211 => (intro w hSw; go_simp; (try with_reducible rfl))
          (try simp only [Act.put]); (try simp only [List.setIfInBounds_toArray]); (try simp only [List.set_cons_succ]); (try simp only [List.set_cons_zero])
          refine wpAnyH_take (i := 12) (oi := { dst := some 63, op := Go.Op.move (Go.Operand.tmp 4), type := 3, pos := "law.go:161", after := #[], guard := none }) (v := ?v12a212) rfl (by kernel_rfl) (by kernel_rfl) (by kernel_rfl) (fun _ _ _ h => h) (Or.inl ⟨by rfl, ?y12a212⟩) (by assumption) ?r12a212
          case y12a212 => (intro w hSw; go_simp; (try with_reducible rfl))
          (try simp only [Act.put]); (try simp only [List.setIfInBounds_toArray]); (try simp only [List.set_cons_succ]); (try simp only [List.set_cons_zero])
          refine wpAnyH_take (i := 13) (oi := { dst := some 64, op := Go.Op.binOp Go.BinOp.add 3 (Go.Operand.tmp 63) (Go.Operand.const (Go.Value.int Go.IntKind.i64 1)) 3, type := 3, pos := "law.go:161", after := #[{ on := 12, ground := Go.Ground.data }], guard := none }) (v := ?v13a213) rfl (by kernel_rfl) (by kernel_rfl) (by kernel_rfl) (fun _ _ _ h => h) (Or.inl ⟨by rfl, ?y13a213⟩) (by assumption) ?r13a213
          case y13a213 => (intro w hSw; go_simp; (try with_reducible rfl))
          (try simp only [Act.put]); (try simp only [List.setIfInBounds_toArray]); (try simp only [List.set_cons_succ]); (try simp only [List.set_cons_zero])
          refine wpAnyH_take (i := 14) (oi := { dst := some 65, op := Go.Op.convert 3 104 (Go.Operand.tmp 64), type := 104, pos := "law.go:161", after := #[{ on := 13, ground := Go.Ground.data }], guard := none }) (v := ?v14a214) rfl (by kernel_rfl) (by kernel_rfl) (by kernel_rfl) (fun _ _ _ h => h) (Or.inl ⟨by rfl, ?y14a214⟩) (by assumption) ?r14a214
          case y14a214 => (intro w hSw; go_simp; (try with_reducible rfl))
          (try simp only [Act.put]); (try simp only [List.setIfInBounds_toArray]); (try simp only [List.set_cons_succ]); (try simp only [List.set_cons_zero])
          refine wpAnyH_ready (rs := [11, 15]) (by kernel_rfl) (by simp) ?_
          refine AllReadyH.cons (o := { dst := some 62, op := Go.Op.load 103 (Go.Operand.tmp 61), type := 103, pos := "law.go:161", after := #[{ on := 10, ground := Go.Ground.data }], guard := none }) rfl (fun Kc hK => ?_) (AllReadyH.cons (o := { dst := some 66, op := Go.Op.buildSlice 103 1 #[(0, Go.Operand.tmp 65)], type := 103, pos := "law.go:161", after := #[{ on := 14, ground := Go.Ground.data }], guard := none }) rfl (fun Kc hK => ?_) AllReadyH.nil)
          · go_simp
            refine hK.out _ _ cm (fun hHeld => ?_)
            clear hK Kc
            (try simp only [Act.put]); (try simp only [List.setIfInBounds_toArray]); (try simp only [List.set_cons_succ]); (try simp only [List.set_cons_zero])
            refine wpAnyH_ready (rs := [15]) (by kernel_rfl) (by simp) ?_
            refine AllReadyH.cons (o := { dst := some 66, op := Go.Op.buildSlice 103 1 #[(0, Go.Operand.tmp 65)], type := 103, pos := "law.go:161", after := #[{ on := 14, ground := Go.Ground.data }], guard := none }) rfl (fun Kc hK => ?_) AllReadyH.nil
            go_simp
            refine hK.out _ _ cm6 (fun hHeld => ?_)
            clear hK Kc
            (try simp only [Act.put]); (try simp only [List.setIfInBounds_toArray]); (try simp only [List.set_cons_succ]); (try simp only [List.set_cons_zero])
            refine wpAnyH_ready (rs := [16]) (by kernel_rfl) (by simp) ?_
            refine AllReadyH.cons (o := { dst := some 67, op := Go.Op.call { callee := Go.Callee.builtin Go.Builtin.append, args := #[Go.Operand.tmp 62, Go.Operand.tmp 66], argTypes := #[103, 103] }, type := 103, pos := "law.go:161", after := #[{ on := 11, ground := Go.Ground.data }, { on := 15, ground := Go.Ground.data }], guard := none }) rfl (fun Kc hK => ?_) AllReadyH.nil
            refine step_append_any (P := Try.prog) _ rfl (.tmp 62) (.tmp 66) 103 103 rfl 104 (.int .u16 0) 2 Try.underlying103 info104 rfl (.slice ro ll rc) ll xs rfl HOw.out (.slice (some ⟨V.heap.size, 0, none⟩) 1 1) 1 [.int .u16 z] rfl HSr.out (by omega) (by omega) ?_
            intro v' w7 ha1 ha2 ha3
            obtain ⟨uo, uc, rfl⟩ := ownN_form ha1
            have HAp := hidM (HGo.out w7 uo uc ha1 ha2 ha3)
            obtain ⟨p0, p1, p2⟩ := HMi.out w7 ha2
            have HP0 := hidM p0
            clear ha1 ha2 ha3 p0
            refine hK.out _ _ (HRm.out w7 HP0.out) (fun hHeld => ?_)
            clear hK Kc
            (try simp only [Act.put]); (try simp only [List.setIfInBounds_toArray]); (try simp only [List.set_cons_succ]); (try simp only [List.set_cons_zero])
            refine wpAnyH_take (i := 17) (oi := { dst := some 68, op := Go.Op.indexAddr 83 (Go.Operand.tmp 54) (Go.Operand.tmp 55), type := 0, pos := "law.go:161", after := #[{ on := 3, ground := Go.Ground.data }, { on := 4, ground := Go.Ground.data }, { on := 0, ground := Go.Ground.phase }, { on := 1, ground := Go.Ground.phase }, { on := 2, ground := Go.Ground.phase }, { on := 3, ground := Go.Ground.phase }, { on := 4, ground := Go.Ground.phase }, { on := 5, ground := Go.Ground.phase }, { on := 6, ground := Go.Ground.phase }, { on := 7, ground := Go.Ground.phase }, { on := 8, ground := Go.Ground.phase }, { on := 9, ground := Go.Ground.phase }, { on := 10, ground := Go.Ground.phase }, { on := 11, ground := Go.Ground.phase }, { on := 12, ground := Go.Ground.phase }, { on := 13, ground := Go.Ground.phase }, { on := 14, ground := Go.Ground.phase }, { on := 15, ground := Go.Ground.phase }, { on := 16, ground := Go.Ground.phase }], guard := none }) (v := ?v17c21) rfl (by kernel_rfl) (by kernel_rfl) (by kernel_rfl) (fun _ _ _ h => h) (Or.inl ⟨by rfl, ?y17c21⟩) (by assumption) ?r17c21
            case y17c21 => (intro w hSw; go_simp; (try with_reducible rfl))
            (try simp only [Act.put]); (try simp only [List.setIfInBounds_toArray]); (try simp only [List.set_cons_succ]); (try simp only [List.set_cons_zero])
            refine wpAnyH_ready (rs := [18]) (by kernel_rfl) (by simp) ?_
            refine AllReadyH.cons (o := { dst := none, op := Go.Op.store 103 (Go.Operand.tmp 68) (Go.Operand.tmp 67), type := 0, pos := "law.go:161", after := #[{ on := 17, ground := Go.Ground.data }, { on := 16, ground := Go.Ground.data }, { on := 16, ground := Go.Ground.chain }, { on := 0, ground := Go.Ground.phase }, { on := 1, ground := Go.Ground.phase }, { on := 2, ground := Go.Ground.phase }, { on := 3, ground := Go.Ground.phase }, { on := 4, ground := Go.Ground.phase }, { on := 5, ground := Go.Ground.phase }, { on := 6, ground := Go.Ground.phase }, { on := 7, ground := Go.Ground.phase }, { on := 8, ground := Go.Ground.phase }, { on := 9, ground := Go.Ground.phase }, { on := 10, ground := Go.Ground.phase }, { on := 11, ground := Go.Ground.phase }, { on := 12, ground := Go.Ground.phase }, { on := 13, ground := Go.Ground.phase }, { on := 14, ground := Go.Ground.phase }, { on := 15, ground := Go.Ground.phase }, { on := 16, ground := Go.Ground.phase }], guard := none }) rfl (fun Kc hK => ?_) AllReadyH.nil
            go_simp
            refine hK.out _ _ (HRm.out _ HAp.out.1.room) (fun hHeld => ?_)
            clear hK Kc
            (try simp only [Act.put]); (try simp only [List.setIfInBounds_toArray]); (try simp only [List.set_cons_succ]); (try simp only [List.set_cons_zero])
            refine wpAnyH_done (by kernel_rfl) ?_ _
            go_wp2_with fail
            exact ⟨⟨k + 1, by omega, by simp, _, _, HAp.out⟩, by simp [intOf]; omega⟩
          · go_simp
            refine hK.out _ _ cm6 (fun hHeld => ?_)
            clear hK Kc
            (try simp only [Act.put]); (try simp only [List.setIfInBounds_toArray]); (try simp only [List.set_cons_succ]); (try simp only [List.set_cons_zero])
            refine wpAnyH_ready (rs := [11]) (by kernel_rfl) (by simp) ?_
            refine AllReadyH.cons (o := { dst := some 62, op := Go.Op.load 103 (Go.Operand.tmp 61), type := 103, pos := "law.go:161", after := #[{ on := 10, ground := Go.Ground.data }], guard := none }) rfl (fun Kc hK => ?_) AllReadyH.nil
            go_simp
            refine hK.out _ _ cm6 (fun hHeld => ?_)
            clear hK Kc
            (try simp only [Act.put]); (try simp only [List.setIfInBounds_toArray]); (try simp only [List.set_cons_succ]); (try simp only [List.set_cons_zero])
            refine wpAnyH_ready (rs := [16]) (by kernel_rfl) (by simp) ?_
            refine AllReadyH.cons (o := { dst := some 67, op := Go.Op.call { callee := Go.Callee.builtin Go.Builtin.append, args := #[Go.Operand.tmp 62, Go.Operand.tmp 66], argTypes := #[103, 103] }, type := 103, pos := "law.go:161", after := #[{ on := 11, ground := Go.Ground.data }, { on := 15, ground := Go.Ground.data }], guard := none }) rfl (fun Kc hK => ?_) AllReadyH.nil
            refine step_append_any (P := Try.prog) _ rfl (.tmp 62) (.tmp 66) 103 103 rfl 104 (.int .u16 0) 2 Try.underlying103 info104 rfl (.slice ro ll rc) ll xs rfl HOw.out (.slice (some ⟨V.heap.size, 0, none⟩) 1 1) 1 [.int .u16 z] rfl HSr.out (by omega) (by omega) ?_
            intro v' w7 ha1 ha2 ha3
            obtain ⟨uo, uc, rfl⟩ := ownN_form ha1
            have HAp := hidM (HGo.out w7 uo uc ha1 ha2 ha3)
            obtain ⟨p0, p1, p2⟩ := HMi.out w7 ha2
            have HP0 := hidM p0
            clear ha1 ha2 ha3 p0
            refine hK.out _ _ (HRm.out w7 HP0.out) (fun hHeld => ?_)
            clear hK Kc
            (try simp only [Act.put]); (try simp only [List.setIfInBounds_toArray]); (try simp only [List.set_cons_succ]); (try simp only [List.set_cons_zero])
            refine wpAnyH_take (i := 17) (oi := { dst := some 68, op := Go.Op.indexAddr 83 (Go.Operand.tmp 54) (Go.Operand.tmp 55), type := 0, pos := "law.go:161", after := #[{ on := 3, ground := Go.Ground.data }, { on := 4, ground := Go.Ground.data }, { on := 0, ground := Go.Ground.phase }, { on := 1, ground := Go.Ground.phase }, { on := 2, ground := Go.Ground.phase }, { on := 3, ground := Go.Ground.phase }, { on := 4, ground := Go.Ground.phase }, { on := 5, ground := Go.Ground.phase }, { on := 6, ground := Go.Ground.phase }, { on := 7, ground := Go.Ground.phase }, { on := 8, ground := Go.Ground.phase }, { on := 9, ground := Go.Ground.phase }, { on := 10, ground := Go.Ground.phase }, { on := 11, ground := Go.Ground.phase }, { on := 12, ground := Go.Ground.phase }, { on := 13, ground := Go.Ground.phase }, { on := 14, ground := Go.Ground.phase }, { on := 15, ground := Go.Ground.phase }, { on := 16, ground := Go.Ground.phase }], guard := none }) (v := ?v17e21) rfl (by kernel_rfl) (by kernel_rfl) (by kernel_rfl) (fun _ _ _ h => h) (Or.inl ⟨by rfl, ?y17e21⟩) (by assumption) ?r17e21
            case y17e21 => (intro w hSw; go_simp; (try with_reducible rfl))
            (try simp only [Act.put]); (try simp only [List.setIfInBounds_toArray]); (try simp only [List.set_cons_succ]); (try simp only [List.set_cons_zero])
            refine wpAnyH_ready (rs := [18]) (by kernel_rfl) (by simp) ?_
            refine AllReadyH.cons (o := { dst := none, op := Go.Op.store 103 (Go.Operand.tmp 68) (Go.Operand.tmp 67), type := 0, pos := "law.go:161", after := #[{ on := 17, ground := Go.Ground.data }, { on := 16, ground := Go.Ground.data }, { on := 16, ground := Go.Ground.chain }, { on := 0, ground := Go.Ground.phase }, { on := 1, ground := Go.Ground.phase }, { on := 2, ground := Go.Ground.phase }, { on := 3, ground := Go.Ground.phase }, { on := 4, ground := Go.Ground.phase }, { on := 5, ground := Go.Ground.phase }, { on := 6, ground := Go.Ground.phase }, { on := 7, ground := Go.Ground.phase }, { on := 8, ground := Go.Ground.phase }, { on := 9, ground := Go.Ground.phase }, { on := 10, ground := Go.Ground.phase }, { on := 11, ground := Go.Ground.phase }, { on := 12, ground := Go.Ground.phase }, { on := 13, ground := Go.Ground.phase }, { on := 14, ground := Go.Ground.phase }, { on := 15, ground := Go.Ground.phase }, { on := 16, ground := Go.Ground.phase }], guard := none }) rfl (fun Kc hK => ?_) AllReadyH.nil
            go_simp
            refine hK.out _ _ (HRm.out _ HAp.out.1.room) (fun hHeld => ?_)
            clear hK Kc
            (try simp only [Act.put]); (try simp only [List.setIfInBounds_toArray]); (try simp only [List.set_cons_succ]); (try simp only [List.set_cons_zero])
            refine wpAnyH_done (by kernel_rfl) ?_ _
            go_wp2_with fail
            exact ⟨⟨k + 1, by omega, by simp, _, _, HAp.out⟩, by simp [intOf]; omega⟩
        · have hkn' : N2 = k := by omega
          subst hkn'
          obtain ⟨S2, rfl⟩ : ∃ S2, S2 = R := ⟨_, rfl⟩
          obtain ⟨p2, rfl⟩ : ∃ p2, p2 = l := ⟨_, rfl⟩
          replace HA := hidM HX.out.1
          clear HX hk hkn
          go_wp2_with fail
          clear cm
          go_loopw [5] (fun p wr => ∃ k : Nat, k ≤ N4 ∧ p = .int .i64 (k : Int) ∧ ∃ R l, Hid (Ap B w wr m cs k1 k2 k4 k8 (.slice o1 N1 c1) (.slice o2 N2 c2) (.slice o4 N4 c4) (.slice o8 N8 c8) N1 N2 N4 N8 S1 S2 R R8 p1 p2 l l8 ∧ ∀ i, i < N4 → (k ≤ i → l i = l4 i))) (fun p _ => N4 - (intOf p).toNat)
          case atStart => exact ⟨0, by omega, rfl, R4, l4, HA.out, fun _ _ _ => rfl⟩
          case round =>
            obtain ⟨k, hk, rfl, R, l, HX⟩ := hrel
            have cm := HX.out.1.room' HE4.out
            obtain ⟨V, rfl⟩ : ∃ V, V = wr := ⟨_, rfl⟩
            by_cases hkn : k < N4
            · obtain ⟨g, ec, hv⟩ := own_some HX.out.1.n4.outer (by omega)
              simp only [Value.slice.injEq] at hv
              obtain ⟨rfl, -, rfl⟩ := hv
              have cg := HX.out.1.n4.cell hkn
              obtain ⟨xs, hx, hmk⟩ := HX.out.1.n4.inner k hkn
              obtain ⟨ro, rc, hro⟩ := ownN_form hx
              rw [hro] at cg hx
              have hkI : (k : Int) < (N4 : Int) := by omega
              obtain ⟨ll, hll⟩ : ∃ ll, ll = l k := ⟨_, rfl⟩
              rw [← hll] at cg hx hmk
              have h64 : IntKind.i64.wrap ((k : Int) + 1) = (k : Int) + 1 := by rw [IntKind.wrap_i64]; omega
              obtain ⟨z, hz⟩ : ∃ z, IntKind.u32.wrap ((k : Int) + 1) = z := ⟨_, rfl⟩
              have hkz : k4 k = z := (HK4.out k).trans hz
              have hllb : ll ≤ 1000000000000 := by rw [hll, HX.out.2 k hkn (Nat.le_refl _)]; exact HB4.out k hkn
              obtain ⟨V6, hV6⟩ : ∃ V6, V.alloc (.cells #[.int .u32 z] 106) = V6 := ⟨_, rfl⟩
              have hk6 : Keeps V V6.drew (fun _ => False) := by rw [← hV6]; exact ((Keeps.refl V _).alloc _).drew
              have cm6 : V6.cell? ⟨m, 13, none⟩ = some (.slice (some ⟨g, 0, none⟩) N4 c4) := hk6.cell' cm id
              have cg6 : V6.cell? ⟨g, k, none⟩ = some (.slice ro ll rc) := hk6.cell' cg id
              have HOw : Hid (V6.drew.ownsRow 0 106 1 (.slice ro ll rc) ll xs) := ownN_kept hx hk6 (fun _ _ h => h)
              have HSr : Hid (Src Try.prog 1 105 (.slice (some ⟨V.heap.size, 0, none⟩) 1 1) 1 [.int .u32 z] V6.drew) := by rw [← hV6]; exact src_num 105 106 Try.underlying105 _ rfl
              have HRm : Hid (∀ W : World, W.heap[m]? = some (.cells cs 87 (0, 0)) → W.cell? ⟨m, 13, none⟩ = some (.slice (some ⟨g, 0, none⟩) N4 c4)) := fun W hW => by rw [cell_of_row W m 13 _ 87 (0, 0) hW]; exact HE4.out
              have HMi : Hid (∀ w7 : World, V6.drew.grownBy w7 (Value.slice ro ll rc).ownBlock → w7.heap[m]? = some (.cells cs 87 (0, 0)) ∧ w7.cell? ⟨g, k, none⟩ = some (.slice ro ll rc) ∧ w7.frozen? ⟨g, k, none⟩ = false) := fun w7 hg => by
                have h1 := HX.out.1.n4.mid (w7 := w7) HX.out.1.room hkn (by decide) (by decide) hk6 (by rw [hro, ← hll]; exact hg)
                rw [hro, ← hll] at h1
                exact h1
              have HGo : Hid (∀ (w7 : World) (uo : Option Addr) (uc : Nat), w7.ownsRow 0 106 1 (.slice uo (ll + 1) uc) (ll + 1) (xs ++ [.int .u32 z]) → V6.drew.grownBy w7 (Value.slice ro ll rc).ownBlock → ((Value.slice uo (ll + 1) uc).ownBlock = (Value.slice ro ll rc).ownBlock ∨ ∀ g, (Value.slice uo (ll + 1) uc).ownBlock = some g → V6.drew.heap.size ≤ g) → Ap B w (w7.setCell ⟨g, k, none⟩ (.slice uo (ll + 1) uc)) m cs k1 k2 k4 k8 (.slice o1 N1 c1) (.slice o2 N2 c2) (.slice (some ⟨g, 0, none⟩) N4 c4) (.slice o8 N8 c8) N1 N2 N4 N8 S1 S2 (fun j => if j = k then .slice uo (ll + 1) uc else R j) R8 p1 p2 (fun j => if j = k then l k + 1 else l j) l8 ∧ ∀ i, i < N4 → (k + 1 ≤ i → (if i = k then l k + 1 else l i) = l4 i)) := fun w7 uo uc q1 q2 q3 => by
                refine ⟨HX.out.1.stp4 (HX.out.1.n4.app (xs := xs) HX.out.1.le hkn (by decide) hk6 (by rw [hro, ← hll]; exact hx) (fun j hj => by rw [hkz]; exact hmk j (by omega) |>.trans (by rw [hkz])) (by rw [hkz, ← hll]; exact q1) (by rw [hro, ← hll]; exact q2) (by rw [hro, ← hll]; exact q3)), fun i hi hki => ?_⟩
                rw [if_neg (by omega)]
                exact HX.out.2 i hi (by omega)
              clear hro hll hx hmk hk6
              go_wp2_with fail
              refine wp_region_held_drew (S := fun w' => w'.cell? ⟨m, 13, none⟩ = some (.slice (some ⟨g, 0, none⟩) N4 c4)) (by kernel_rfl) cm (fun hHeld => ?_)
              refine wpAnyH_take (i := 0) (oi := { dst := some 78, op := Go.Op.move (Go.Operand.tmp 0), type := 24, pos := "law.go:164", after := #[], guard := none }) (v := ?v0a41) rfl (by kernel_rfl) (by kernel_rfl) (by kernel_rfl) (fun _ _ _ h => h) (Or.inl ⟨by rfl, ?y0a41⟩) (by assumption) ?r0a41
              case y0a41 => (intro w hSw; go_simp; (try with_reducible rfl))
              (try simp only [Act.put]); (try simp only [List.setIfInBounds_toArray]); (try simp only [List.set_cons_succ]); (try simp only [List.set_cons_zero])
              refine wpAnyH_take (i := 1) (oi := { dst := some 79, op := Go.Op.nilCheck (Go.Operand.tmp 78), type := 0, pos := "law.go:164", after := #[{ on := 0, ground := Go.Ground.data }], guard := none }) (v := ?v1a42) rfl (by kernel_rfl) (by kernel_rfl) (by kernel_rfl) (fun _ _ _ h => h) (Or.inl ⟨by rfl, ?y1a42⟩) (by assumption) ?r1a42
              case y1a42 => (intro w hSw; go_simp; (try with_reducible rfl))
              (try simp only [Act.put]); (try simp only [List.setIfInBounds_toArray]); (try simp only [List.set_cons_succ]); (try simp only [List.set_cons_zero])
              refine wpAnyH_take (i := 2) (oi := { dst := some 80, op := Go.Op.fieldAddr 87 (Go.Operand.tmp 79) 9, type := 0, pos := "law.go:164", after := #[{ on := 1, ground := Go.Ground.data }], guard := none }) (v := ?v2a43) rfl (by kernel_rfl) (by kernel_rfl) (by kernel_rfl) (fun _ _ _ h => h) (Or.inl ⟨by rfl, ?y2a43⟩) (by assumption) ?r2a43
              case y2a43 => (intro w hSw; go_simp; (try with_reducible rfl))
              (try simp only [Act.put]); (try simp only [List.setIfInBounds_toArray]); (try simp only [List.set_cons_succ]); (try simp only [List.set_cons_zero])
              refine wpAnyH_take (i := 3) (oi := { dst := some 81, op := Go.Op.load 84 (Go.Operand.tmp 80), type := 84, pos := "law.go:164", after := #[{ on := 2, ground := Go.Ground.data }], guard := none }) (v := ?v3a44) rfl (by kernel_rfl) (by kernel_rfl) (by kernel_rfl) (fun _ _ _ h => h) (Or.inl ⟨by rfl, ?y3a44⟩) (by assumption) ?r3a44
              case y3a44 => (intro w hSw; go_simp; (try with_reducible rfl))
              (try simp only [Act.put]); (try simp only [List.setIfInBounds_toArray]); (try simp only [List.set_cons_succ]); (try simp only [List.set_cons_zero])
              refine wpAnyH_take (i := 4) (oi := { dst := some 82, op := Go.Op.move (Go.Operand.tmp 5), type := 3, pos := "law.go:164", after := #[], guard := none }) (v := ?v4a45) rfl (by kernel_rfl) (by kernel_rfl) (by kernel_rfl) (fun _ _ _ h => h) (Or.inl ⟨by rfl, ?y4a45⟩) (by assumption) ?r4a45
              case y4a45 => (intro w hSw; go_simp; (try with_reducible rfl))
              (try simp only [Act.put]); (try simp only [List.setIfInBounds_toArray]); (try simp only [List.set_cons_succ]); (try simp only [List.set_cons_zero])
              refine wpAnyH_take (i := 5) (oi := { dst := some 83, op := Go.Op.move (Go.Operand.tmp 0), type := 24, pos := "law.go:164", after := #[], guard := none }) (v := ?v5a46) rfl (by kernel_rfl) (by kernel_rfl) (by kernel_rfl) (fun _ _ _ h => h) (Or.inl ⟨by rfl, ?y5a46⟩) (by assumption) ?r5a46
              case y5a46 => (intro w hSw; go_simp; (try with_reducible rfl))
              (try simp only [Act.put]); (try simp only [List.setIfInBounds_toArray]); (try simp only [List.set_cons_succ]); (try simp only [List.set_cons_zero])
              refine wpAnyH_take (i := 6) (oi := { dst := some 84, op := Go.Op.nilCheck (Go.Operand.tmp 83), type := 0, pos := "law.go:164", after := #[{ on := 5, ground := Go.Ground.data }], guard := none }) (v := ?v6a47) rfl (by kernel_rfl) (by kernel_rfl) (by kernel_rfl) (fun _ _ _ h => h) (Or.inl ⟨by rfl, ?y6a47⟩) (by assumption) ?r6a47
              case y6a47 => (intro w hSw; go_simp; (try with_reducible rfl))
              (try simp only [Act.put]); (try simp only [List.setIfInBounds_toArray]); (try simp only [List.set_cons_succ]); (try simp only [List.set_cons_zero])
              refine wpAnyH_take (i := 7) (oi := { dst := some 85, op := Go.Op.fieldAddr 87 (Go.Operand.tmp 84) 9, type := 0, pos := "law.go:164", after := #[{ on := 6, ground := Go.Ground.data }], guard := none }) (v := ?v7a48) rfl (by kernel_rfl) (by kernel_rfl) (by kernel_rfl) (fun _ _ _ h => h) (Or.inl ⟨by rfl, ?y7a48⟩) (by assumption) ?r7a48
              case y7a48 => (intro w hSw; go_simp; (try with_reducible rfl))
              (try simp only [Act.put]); (try simp only [List.setIfInBounds_toArray]); (try simp only [List.set_cons_succ]); (try simp only [List.set_cons_zero])
              refine wpAnyH_take (i := 8) (oi := { dst := some 86, op := Go.Op.load 84 (Go.Operand.tmp 85), type := 84, pos := "law.go:164", after := #[{ on := 7, ground := Go.Ground.data }], guard := none }) (v := ?v8a49) rfl (by kernel_rfl) (by kernel_rfl) (by kernel_rfl) (fun _ _ _ h => h) (Or.inl ⟨by rfl, ?y8a49⟩) (by assumption) ?r8a49
              case y8a49 => (intro w hSw; go_simp; (try with_reducible rfl))
              (try simp only [Act.put]); (try simp only [List.setIfInBounds_toArray]); (try simp only [List.set_cons_succ]); (try simp only [List.set_cons_zero])
              refine wpAnyH_take (i := 9) (oi := { dst := some 87, op := Go.Op.move (Go.Operand.tmp 5), type := 3, pos := "law.go:164", after := #[], guard := none }) (v := ?v9a410) rfl (by kernel_rfl) (by kernel_rfl) (by kernel_rfl) (fun _ _ _ h => h) (Or.inl ⟨by rfl, ?y9a410⟩) (by assumption) ?r9a410
              case y9a410 => (intro w hSw; go_simp; (try with_reducible rfl))
              (try simp only [Act.put]); (try simp only [List.setIfInBounds_toArray]); (try simp only [List.set_cons_succ]); (try simp only [List.set_cons_zero])
              refine wpAnyH_take (i := 10) (oi := { dst := some 88, op := Go.Op.indexAddr 84 (Go.Operand.tmp 86) (Go.Operand.tmp 87), type := 0, pos := "law.go:164", after := #[{ on := 8, ground := Go.Ground.data }, { on := 9, ground := Go.Ground.data }], guard := none }) (v := ?v10a411) rfl (by kernel_rfl) (by kernel_rfl) (by kernel_rfl) (fun _ _ _ h => h) (Or.inl ⟨by rfl, ?y10a411⟩) (by assumption) ?r10a411
              case y10a411 => (intro w hSw; go_simp; (try with_reducible rfl))
              (try simp only [Act.put]); (try simp only [List.setIfInBounds_toArray]); (try simp only [List.set_cons_succ]); (try simp only [List.set_cons_zero])
              refine wpAnyH_take (i := 12) (oi := { dst := some 90, op := Go.Op.move (Go.Operand.tmp 5), type := 3, pos := "law.go:164", after := #[], guard := none }) (v := ?v12a412) rfl (by kernel_rfl) (by kernel_rfl) (by kernel_rfl) (fun _ _ _ h => h) (Or.inl ⟨by rfl, ?y12a412⟩) (by assumption) ?r12a412
              case y12a412 => (intro w hSw; go_simp; (try with_reducible rfl))
              (try simp only [Act.put]); (try simp only [List.setIfInBounds_toArray]); (try simp only [List.set_cons_succ]); (try simp only [List.set_cons_zero])
              refine wpAnyH_take (i := 13) (oi := { dst := some 91, op := Go.Op.binOp Go.BinOp.add 3 (Go.Operand.tmp 90) (Go.Operand.const (Go.Value.int Go.IntKind.i64 1)) 3, type := 3, pos := "law.go:164", after := #[{ on := 12, ground := Go.Ground.data }], guard := none }) (v := ?v13a413) rfl (by kernel_rfl) (by kernel_rfl) (by kernel_rfl) (fun _ _ _ h => h) (Or.inl ⟨by rfl, ?y13a413⟩) (by assumption) ?r13a413
              case y13a413 => (intro w hSw; go_simp; (try with_reducible rfl))
              (try simp only [Act.put]); (try simp only [List.setIfInBounds_toArray]); (try simp only [List.set_cons_succ]); (try simp only [List.set_cons_zero])
              refine wpAnyH_take (i := 14) (oi := { dst := some 92, op := Go.Op.convert 3 106 (Go.Operand.tmp 91), type := 106, pos := "law.go:164", after := #[{ on := 13, ground := Go.Ground.data }], guard := none }) (v := ?v14a414) rfl (by kernel_rfl) (by kernel_rfl) (by kernel_rfl) (fun _ _ _ h => h) (Or.inl ⟨by rfl, ?y14a414⟩) (by assumption) ?r14a414
              case y14a414 => (intro w hSw; go_simp; (try with_reducible rfl))
              (try simp only [Act.put]); (try simp only [List.setIfInBounds_toArray]); (try simp only [List.set_cons_succ]); (try simp only [List.set_cons_zero])
              refine wpAnyH_ready (rs := [11, 15]) (by kernel_rfl) (by simp) ?_
              refine AllReadyH.cons (o := { dst := some 89, op := Go.Op.load 105 (Go.Operand.tmp 88), type := 105, pos := "law.go:164", after := #[{ on := 10, ground := Go.Ground.data }], guard := none }) rfl (fun Kc hK => ?_) (AllReadyH.cons (o := { dst := some 93, op := Go.Op.buildSlice 105 1 #[(0, Go.Operand.tmp 92)], type := 105, pos := "law.go:164", after := #[{ on := 14, ground := Go.Ground.data }], guard := none }) rfl (fun Kc hK => ?_) AllReadyH.nil)
              · go_simp
                refine hK.out _ _ cm (fun hHeld => ?_)
                clear hK Kc
                (try simp only [Act.put]); (try simp only [List.setIfInBounds_toArray]); (try simp only [List.set_cons_succ]); (try simp only [List.set_cons_zero])
                refine wpAnyH_ready (rs := [15]) (by kernel_rfl) (by simp) ?_
                refine AllReadyH.cons (o := { dst := some 93, op := Go.Op.buildSlice 105 1 #[(0, Go.Operand.tmp 92)], type := 105, pos := "law.go:164", after := #[{ on := 14, ground := Go.Ground.data }], guard := none }) rfl (fun Kc hK => ?_) AllReadyH.nil
                go_simp
                refine hK.out _ _ cm6 (fun hHeld => ?_)
                clear hK Kc
                (try simp only [Act.put]); (try simp only [List.setIfInBounds_toArray]); (try simp only [List.set_cons_succ]); (try simp only [List.set_cons_zero])
                refine wpAnyH_ready (rs := [16]) (by kernel_rfl) (by simp) ?_
                refine AllReadyH.cons (o := { dst := some 94, op := Go.Op.call { callee := Go.Callee.builtin Go.Builtin.append, args := #[Go.Operand.tmp 89, Go.Operand.tmp 93], argTypes := #[105, 105] }, type := 105, pos := "law.go:164", after := #[{ on := 11, ground := Go.Ground.data }, { on := 15, ground := Go.Ground.data }], guard := none }) rfl (fun Kc hK => ?_) AllReadyH.nil
                refine step_append_any (P := Try.prog) _ rfl (.tmp 89) (.tmp 93) 105 105 rfl 106 (.int .u32 0) 4 Try.underlying105 infoW106 rfl (.slice ro ll rc) ll xs rfl HOw.out (.slice (some ⟨V.heap.size, 0, none⟩) 1 1) 1 [.int .u32 z] rfl HSr.out (by omega) (by omega) ?_
                intro v' w7 ha1 ha2 ha3
                obtain ⟨uo, uc, rfl⟩ := ownN_form ha1
                have HAp := hidM (HGo.out w7 uo uc ha1 ha2 ha3)
                obtain ⟨p0, p1, p2⟩ := HMi.out w7 ha2
                have HP0 := hidM p0
                clear ha1 ha2 ha3 p0
                refine hK.out _ _ (HRm.out w7 HP0.out) (fun hHeld => ?_)
                clear hK Kc
                (try simp only [Act.put]); (try simp only [List.setIfInBounds_toArray]); (try simp only [List.set_cons_succ]); (try simp only [List.set_cons_zero])
                refine wpAnyH_take (i := 17) (oi := { dst := some 95, op := Go.Op.indexAddr 84 (Go.Operand.tmp 81) (Go.Operand.tmp 82), type := 0, pos := "law.go:164", after := #[{ on := 3, ground := Go.Ground.data }, { on := 4, ground := Go.Ground.data }, { on := 0, ground := Go.Ground.phase }, { on := 1, ground := Go.Ground.phase }, { on := 2, ground := Go.Ground.phase }, { on := 3, ground := Go.Ground.phase }, { on := 4, ground := Go.Ground.phase }, { on := 5, ground := Go.Ground.phase }, { on := 6, ground := Go.Ground.phase }, { on := 7, ground := Go.Ground.phase }, { on := 8, ground := Go.Ground.phase }, { on := 9, ground := Go.Ground.phase }, { on := 10, ground := Go.Ground.phase }, { on := 11, ground := Go.Ground.phase }, { on := 12, ground := Go.Ground.phase }, { on := 13, ground := Go.Ground.phase }, { on := 14, ground := Go.Ground.phase }, { on := 15, ground := Go.Ground.phase }, { on := 16, ground := Go.Ground.phase }], guard := none }) (v := ?v17c41) rfl (by kernel_rfl) (by kernel_rfl) (by kernel_rfl) (fun _ _ _ h => h) (Or.inl ⟨by rfl, ?y17c41⟩) (by assumption) ?r17c41
                case y17c41 => (intro w hSw; go_simp; (try with_reducible rfl))
                (try simp only [Act.put]); (try simp only [List.setIfInBounds_toArray]); (try simp only [List.set_cons_succ]); (try simp only [List.set_cons_zero])
                refine wpAnyH_ready (rs := [18]) (by kernel_rfl) (by simp) ?_
                refine AllReadyH.cons (o := { dst := none, op := Go.Op.store 105 (Go.Operand.tmp 95) (Go.Operand.tmp 94), type := 0, pos := "law.go:164", after := #[{ on := 17, ground := Go.Ground.data }, { on := 16, ground := Go.Ground.data }, { on := 16, ground := Go.Ground.chain }, { on := 0, ground := Go.Ground.phase }, { on := 1, ground := Go.Ground.phase }, { on := 2, ground := Go.Ground.phase }, { on := 3, ground := Go.Ground.phase }, { on := 4, ground := Go.Ground.phase }, { on := 5, ground := Go.Ground.phase }, { on := 6, ground := Go.Ground.phase }, { on := 7, ground := Go.Ground.phase }, { on := 8, ground := Go.Ground.phase }, { on := 9, ground := Go.Ground.phase }, { on := 10, ground := Go.Ground.phase }, { on := 11, ground := Go.Ground.phase }, { on := 12, ground := Go.Ground.phase }, { on := 13, ground := Go.Ground.phase }, { on := 14, ground := Go.Ground.phase }, { on := 15, ground := Go.Ground.phase }, { on := 16, ground := Go.Ground.phase }], guard := none }) rfl (fun Kc hK => ?_) AllReadyH.nil
                go_simp
                refine hK.out _ _ (HRm.out _ HAp.out.1.room) (fun hHeld => ?_)
                clear hK Kc
                (try simp only [Act.put]); (try simp only [List.setIfInBounds_toArray]); (try simp only [List.set_cons_succ]); (try simp only [List.set_cons_zero])
                refine wpAnyH_done (by kernel_rfl) ?_ _
                go_wp2_with fail
                exact ⟨⟨k + 1, by omega, by simp, _, _, HAp.out⟩, by simp [intOf]; omega⟩
              · go_simp
                refine hK.out _ _ cm6 (fun hHeld => ?_)
                clear hK Kc
                (try simp only [Act.put]); (try simp only [List.setIfInBounds_toArray]); (try simp only [List.set_cons_succ]); (try simp only [List.set_cons_zero])
                refine wpAnyH_ready (rs := [11]) (by kernel_rfl) (by simp) ?_
                refine AllReadyH.cons (o := { dst := some 89, op := Go.Op.load 105 (Go.Operand.tmp 88), type := 105, pos := "law.go:164", after := #[{ on := 10, ground := Go.Ground.data }], guard := none }) rfl (fun Kc hK => ?_) AllReadyH.nil
                go_simp
                refine hK.out _ _ cm6 (fun hHeld => ?_)
                clear hK Kc
                (try simp only [Act.put]); (try simp only [List.setIfInBounds_toArray]); (try simp only [List.set_cons_succ]); (try simp only [List.set_cons_zero])
                refine wpAnyH_ready (rs := [16]) (by kernel_rfl) (by simp) ?_
                refine AllReadyH.cons (o := { dst := some 94, op := Go.Op.call { callee := Go.Callee.builtin Go.Builtin.append, args := #[Go.Operand.tmp 89, Go.Operand.tmp 93], argTypes := #[105, 105] }, type := 105, pos := "law.go:164", after := #[{ on := 11, ground := Go.Ground.data }, { on := 15, ground := Go.Ground.data }], guard := none }) rfl (fun Kc hK => ?_) AllReadyH.nil
                refine step_append_any (P := Try.prog) _ rfl (.tmp 89) (.tmp 93) 105 105 rfl 106 (.int .u32 0) 4 Try.underlying105 infoW106 rfl (.slice ro ll rc) ll xs rfl HOw.out (.slice (some ⟨V.heap.size, 0, none⟩) 1 1) 1 [.int .u32 z] rfl HSr.out (by omega) (by omega) ?_
                intro v' w7 ha1 ha2 ha3
                obtain ⟨uo, uc, rfl⟩ := ownN_form ha1
                have HAp := hidM (HGo.out w7 uo uc ha1 ha2 ha3)
                obtain ⟨p0, p1, p2⟩ := HMi.out w7 ha2
                have HP0 := hidM p0
                clear ha1 ha2 ha3 p0
                refine hK.out _ _ (HRm.out w7 HP0.out) (fun hHeld => ?_)
                clear hK Kc
                (try simp only [Act.put]); (try simp only [List.setIfInBounds_toArray]); (try simp only [List.set_cons_succ]); (try simp only [List.set_cons_zero])
                refine wpAnyH_take (i := 17) (oi := { dst := some 95, op := Go.Op.indexAddr 84 (Go.Operand.tmp 81) (Go.Operand.tmp 82), type := 0, pos := "law.go:164", after := #[{ on := 3, ground := Go.Ground.data }, { on := 4, ground := Go.Ground.data }, { on := 0, ground := Go.Ground.phase }, { on := 1, ground := Go.Ground.phase }, { on := 2, ground := Go.Ground.phase }, { on := 3, ground := Go.Ground.phase }, { on := 4, ground := Go.Ground.phase }, { on := 5, ground := Go.Ground.phase }, { on := 6, ground := Go.Ground.phase }, { on := 7, ground := Go.Ground.phase }, { on := 8, ground := Go.Ground.phase }, { on := 9, ground := Go.Ground.phase }, { on := 10, ground := Go.Ground.phase }, { on := 11, ground := Go.Ground.phase }, { on := 12, ground := Go.Ground.phase }, { on := 13, ground := Go.Ground.phase }, { on := 14, ground := Go.Ground.phase }, { on := 15, ground := Go.Ground.phase }, { on := 16, ground := Go.Ground.phase }], guard := none }) (v := ?v17e41) rfl (by kernel_rfl) (by kernel_rfl) (by kernel_rfl) (fun _ _ _ h => h) (Or.inl ⟨by rfl, ?y17e41⟩) (by assumption) ?r17e41
                case y17e41 => (intro w hSw; go_simp; (try with_reducible rfl))
                (try simp only [Act.put]); (try simp only [List.setIfInBounds_toArray]); (try simp only [List.set_cons_succ]); (try simp only [List.set_cons_zero])
                refine wpAnyH_ready (rs := [18]) (by kernel_rfl) (by simp) ?_
                refine AllReadyH.cons (o := { dst := none, op := Go.Op.store 105 (Go.Operand.tmp 95) (Go.Operand.tmp 94), type := 0, pos := "law.go:164", after := #[{ on := 17, ground := Go.Ground.data }, { on := 16, ground := Go.Ground.data }, { on := 16, ground := Go.Ground.chain }, { on := 0, ground := Go.Ground.phase }, { on := 1, ground := Go.Ground.phase }, { on := 2, ground := Go.Ground.phase }, { on := 3, ground := Go.Ground.phase }, { on := 4, ground := Go.Ground.phase }, { on := 5, ground := Go.Ground.phase }, { on := 6, ground := Go.Ground.phase }, { on := 7, ground := Go.Ground.phase }, { on := 8, ground := Go.Ground.phase }, { on := 9, ground := Go.Ground.phase }, { on := 10, ground := Go.Ground.phase }, { on := 11, ground := Go.Ground.phase }, { on := 12, ground := Go.Ground.phase }, { on := 13, ground := Go.Ground.phase }, { on := 14, ground := Go.Ground.phase }, { on := 15, ground := Go.Ground.phase }, { on := 16, ground := Go.Ground.phase }], guard := none }) rfl (fun Kc hK => ?_) AllReadyH.nil
                go_simp
                refine hK.out _ _ (HRm.out _ HAp.out.1.room) (fun hHeld => ?_)
                clear hK Kc
                (try simp only [Act.put]); (try simp only [List.setIfInBounds_toArray]); (try simp only [List.set_cons_succ]); (try simp only [List.set_cons_zero])
                refine wpAnyH_done (by kernel_rfl) ?_ _
                go_wp2_with fail
                exact ⟨⟨k + 1, by omega, by simp, _, _, HAp.out⟩, by simp [intOf]; omega⟩
            · have hkn' : N4 = k := by omega
              subst hkn'
              obtain ⟨S4, rfl⟩ : ∃ S4, S4 = R := ⟨_, rfl⟩
              obtain ⟨p4, rfl⟩ : ∃ p4, p4 = l := ⟨_, rfl⟩
              replace HA := hidM HX.out.1
              clear HX hk hkn
              go_wp2_with fail
              clear cm
              go_loopw [6] (fun p wr => ∃ k : Nat, k ≤ N8 ∧ p = .int .i64 (k : Int) ∧ ∃ R l, Hid (Ap B w wr m cs k1 k2 k4 k8 (.slice o1 N1 c1) (.slice o2 N2 c2) (.slice o4 N4 c4) (.slice o8 N8 c8) N1 N2 N4 N8 S1 S2 S4 R p1 p2 p4 l ∧ ∀ i, i < N8 → (k ≤ i → l i = l8 i))) (fun p _ => N8 - (intOf p).toNat)
              case atStart => exact ⟨0, by omega, rfl, R8, l8, HA.out, fun _ _ _ => rfl⟩
              case round =>
                obtain ⟨k, hk, rfl, R, l, HX⟩ := hrel
                have cm := HX.out.1.room' HE8.out
                obtain ⟨V, rfl⟩ : ∃ V, V = wr := ⟨_, rfl⟩
                by_cases hkn : k < N8
                · obtain ⟨g, ec, hv⟩ := own_some HX.out.1.n8.outer (by omega)
                  simp only [Value.slice.injEq] at hv
                  obtain ⟨rfl, -, rfl⟩ := hv
                  have cg := HX.out.1.n8.cell hkn
                  obtain ⟨xs, hx, hmk⟩ := HX.out.1.n8.inner k hkn
                  obtain ⟨ro, rc, hro⟩ := ownN_form hx
                  rw [hro] at cg hx
                  have hkI : (k : Int) < (N8 : Int) := by omega
                  obtain ⟨ll, hll⟩ : ∃ ll, ll = l k := ⟨_, rfl⟩
                  rw [← hll] at cg hx hmk
                  have h64 : IntKind.i64.wrap ((k : Int) + 1) = (k : Int) + 1 := by rw [IntKind.wrap_i64]; omega
                  obtain ⟨z, hz⟩ : ∃ z, IntKind.u64.wrap ((k : Int) + 1) = z := ⟨_, rfl⟩
                  have hkz : k8 k = z := (HK8.out k).trans hz
                  have hllb : ll ≤ 1000000000000 := by rw [hll, HX.out.2 k hkn (Nat.le_refl _)]; exact HB8.out k hkn
                  obtain ⟨V6, hV6⟩ : ∃ V6, V.alloc (.cells #[.int .u64 z] 46) = V6 := ⟨_, rfl⟩
                  have hk6 : Keeps V V6.drew (fun _ => False) := by rw [← hV6]; exact ((Keeps.refl V _).alloc _).drew
                  have cm6 : V6.cell? ⟨m, 14, none⟩ = some (.slice (some ⟨g, 0, none⟩) N8 c8) := hk6.cell' cm id
                  have cg6 : V6.cell? ⟨g, k, none⟩ = some (.slice ro ll rc) := hk6.cell' cg id
                  have HOw : Hid (V6.drew.ownsRow 0 46 1 (.slice ro ll rc) ll xs) := ownN_kept hx hk6 (fun _ _ h => h)
                  have HSr : Hid (Src Try.prog 1 107 (.slice (some ⟨V.heap.size, 0, none⟩) 1 1) 1 [.int .u64 z] V6.drew) := by rw [← hV6]; exact src_num 107 46 Try.underlying107 _ rfl
                  have HRm : Hid (∀ W : World, W.heap[m]? = some (.cells cs 87 (0, 0)) → W.cell? ⟨m, 14, none⟩ = some (.slice (some ⟨g, 0, none⟩) N8 c8)) := fun W hW => by rw [cell_of_row W m 14 _ 87 (0, 0) hW]; exact HE8.out
                  have HMi : Hid (∀ w7 : World, V6.drew.grownBy w7 (Value.slice ro ll rc).ownBlock → w7.heap[m]? = some (.cells cs 87 (0, 0)) ∧ w7.cell? ⟨g, k, none⟩ = some (.slice ro ll rc) ∧ w7.frozen? ⟨g, k, none⟩ = false) := fun w7 hg => by
                    have h1 := HX.out.1.n8.mid (w7 := w7) HX.out.1.room hkn (by decide) (by decide) hk6 (by rw [hro, ← hll]; exact hg)
                    rw [hro, ← hll] at h1
                    exact h1
                  have HGo : Hid (∀ (w7 : World) (uo : Option Addr) (uc : Nat), w7.ownsRow 0 46 1 (.slice uo (ll + 1) uc) (ll + 1) (xs ++ [.int .u64 z]) → V6.drew.grownBy w7 (Value.slice ro ll rc).ownBlock → ((Value.slice uo (ll + 1) uc).ownBlock = (Value.slice ro ll rc).ownBlock ∨ ∀ g, (Value.slice uo (ll + 1) uc).ownBlock = some g → V6.drew.heap.size ≤ g) → Ap B w (w7.setCell ⟨g, k, none⟩ (.slice uo (ll + 1) uc)) m cs k1 k2 k4 k8 (.slice o1 N1 c1) (.slice o2 N2 c2) (.slice o4 N4 c4) (.slice (some ⟨g, 0, none⟩) N8 c8) N1 N2 N4 N8 S1 S2 S4 (fun j => if j = k then .slice uo (ll + 1) uc else R j) p1 p2 p4 (fun j => if j = k then l k + 1 else l j) ∧ ∀ i, i < N8 → (k + 1 ≤ i → (if i = k then l k + 1 else l i) = l8 i)) := fun w7 uo uc q1 q2 q3 => by
                    refine ⟨HX.out.1.stp8 (HX.out.1.n8.app (xs := xs) HX.out.1.le hkn (by decide) hk6 (by rw [hro, ← hll]; exact hx) (fun j hj => by rw [hkz]; exact hmk j (by omega) |>.trans (by rw [hkz])) (by rw [hkz, ← hll]; exact q1) (by rw [hro, ← hll]; exact q2) (by rw [hro, ← hll]; exact q3)), fun i hi hki => ?_⟩
                    rw [if_neg (by omega)]
                    exact HX.out.2 i hi (by omega)
                  clear hro hll hx hmk hk6
                  go_wp2_with fail
                  refine wp_region_held_drew (S := fun w' => w'.cell? ⟨m, 14, none⟩ = some (.slice (some ⟨g, 0, none⟩) N8 c8)) (by kernel_rfl) cm (fun hHeld => ?_)
                  refine wpAnyH_take (i := 0) (oi := { dst := some 105, op := Go.Op.move (Go.Operand.tmp 0), type := 24, pos := "law.go:167", after := #[], guard := none }) (v := ?v0a81) rfl (by kernel_rfl) (by kernel_rfl) (by kernel_rfl) (fun _ _ _ h => h) (Or.inl ⟨by rfl, ?y0a81⟩) (by assumption) ?r0a81
                  case y0a81 => (intro w hSw; go_simp; (try with_reducible rfl))
                  (try simp only [Act.put]); (try simp only [List.setIfInBounds_toArray]); (try simp only [List.set_cons_succ]); (try simp only [List.set_cons_zero])
                  refine wpAnyH_take (i := 1) (oi := { dst := some 106, op := Go.Op.nilCheck (Go.Operand.tmp 105), type := 0, pos := "law.go:167", after := #[{ on := 0, ground := Go.Ground.data }], guard := none }) (v := ?v1a82) rfl (by kernel_rfl) (by kernel_rfl) (by kernel_rfl) (fun _ _ _ h => h) (Or.inl ⟨by rfl, ?y1a82⟩) (by assumption) ?r1a82
                  case y1a82 => (intro w hSw; go_simp; (try with_reducible rfl))
                  (try simp only [Act.put]); (try simp only [List.setIfInBounds_toArray]); (try simp only [List.set_cons_succ]); (try simp only [List.set_cons_zero])
                  refine wpAnyH_take (i := 2) (oi := { dst := some 107, op := Go.Op.fieldAddr 87 (Go.Operand.tmp 106) 10, type := 0, pos := "law.go:167", after := #[{ on := 1, ground := Go.Ground.data }], guard := none }) (v := ?v2a83) rfl (by kernel_rfl) (by kernel_rfl) (by kernel_rfl) (fun _ _ _ h => h) (Or.inl ⟨by rfl, ?y2a83⟩) (by assumption) ?r2a83
                  case y2a83 => (intro w hSw; go_simp; (try with_reducible rfl))
                  (try simp only [Act.put]); (try simp only [List.setIfInBounds_toArray]); (try simp only [List.set_cons_succ]); (try simp only [List.set_cons_zero])
                  refine wpAnyH_take (i := 3) (oi := { dst := some 108, op := Go.Op.load 85 (Go.Operand.tmp 107), type := 85, pos := "law.go:167", after := #[{ on := 2, ground := Go.Ground.data }], guard := none }) (v := ?v3a84) rfl (by kernel_rfl) (by kernel_rfl) (by kernel_rfl) (fun _ _ _ h => h) (Or.inl ⟨by rfl, ?y3a84⟩) (by assumption) ?r3a84
                  case y3a84 => (intro w hSw; go_simp; (try with_reducible rfl))
                  (try simp only [Act.put]); (try simp only [List.setIfInBounds_toArray]); (try simp only [List.set_cons_succ]); (try simp only [List.set_cons_zero])
                  refine wpAnyH_take (i := 4) (oi := { dst := some 109, op := Go.Op.move (Go.Operand.tmp 6), type := 3, pos := "law.go:167", after := #[], guard := none }) (v := ?v4a85) rfl (by kernel_rfl) (by kernel_rfl) (by kernel_rfl) (fun _ _ _ h => h) (Or.inl ⟨by rfl, ?y4a85⟩) (by assumption) ?r4a85
                  case y4a85 => (intro w hSw; go_simp; (try with_reducible rfl))
                  (try simp only [Act.put]); (try simp only [List.setIfInBounds_toArray]); (try simp only [List.set_cons_succ]); (try simp only [List.set_cons_zero])
                  refine wpAnyH_take (i := 5) (oi := { dst := some 110, op := Go.Op.move (Go.Operand.tmp 0), type := 24, pos := "law.go:167", after := #[], guard := none }) (v := ?v5a86) rfl (by kernel_rfl) (by kernel_rfl) (by kernel_rfl) (fun _ _ _ h => h) (Or.inl ⟨by rfl, ?y5a86⟩) (by assumption) ?r5a86
                  case y5a86 => (intro w hSw; go_simp; (try with_reducible rfl))
                  (try simp only [Act.put]); (try simp only [List.setIfInBounds_toArray]); (try simp only [List.set_cons_succ]); (try simp only [List.set_cons_zero])
                  refine wpAnyH_take (i := 6) (oi := { dst := some 111, op := Go.Op.nilCheck (Go.Operand.tmp 110), type := 0, pos := "law.go:167", after := #[{ on := 5, ground := Go.Ground.data }], guard := none }) (v := ?v6a87) rfl (by kernel_rfl) (by kernel_rfl) (by kernel_rfl) (fun _ _ _ h => h) (Or.inl ⟨by rfl, ?y6a87⟩) (by assumption) ?r6a87
                  case y6a87 => (intro w hSw; go_simp; (try with_reducible rfl))
                  (try simp only [Act.put]); (try simp only [List.setIfInBounds_toArray]); (try simp only [List.set_cons_succ]); (try simp only [List.set_cons_zero])
                  refine wpAnyH_take (i := 7) (oi := { dst := some 112, op := Go.Op.fieldAddr 87 (Go.Operand.tmp 111) 10, type := 0, pos := "law.go:167", after := #[{ on := 6, ground := Go.Ground.data }], guard := none }) (v := ?v7a88) rfl (by kernel_rfl) (by kernel_rfl) (by kernel_rfl) (fun _ _ _ h => h) (Or.inl ⟨by rfl, ?y7a88⟩) (by assumption) ?r7a88
                  case y7a88 => (intro w hSw; go_simp; (try with_reducible rfl))
                  (try simp only [Act.put]); (try simp only [List.setIfInBounds_toArray]); (try simp only [List.set_cons_succ]); (try simp only [List.set_cons_zero])
                  refine wpAnyH_take (i := 8) (oi := { dst := some 113, op := Go.Op.load 85 (Go.Operand.tmp 112), type := 85, pos := "law.go:167", after := #[{ on := 7, ground := Go.Ground.data }], guard := none }) (v := ?v8a89) rfl (by kernel_rfl) (by kernel_rfl) (by kernel_rfl) (fun _ _ _ h => h) (Or.inl ⟨by rfl, ?y8a89⟩) (by assumption) ?r8a89
                  case y8a89 => (intro w hSw; go_simp; (try with_reducible rfl))
                  (try simp only [Act.put]); (try simp only [List.setIfInBounds_toArray]); (try simp only [List.set_cons_succ]); (try simp only [List.set_cons_zero])
                  refine wpAnyH_take (i := 9) (oi := { dst := some 114, op := Go.Op.move (Go.Operand.tmp 6), type := 3, pos := "law.go:167", after := #[], guard := none }) (v := ?v9a810) rfl (by kernel_rfl) (by kernel_rfl) (by kernel_rfl) (fun _ _ _ h => h) (Or.inl ⟨by rfl, ?y9a810⟩) (by assumption) ?r9a810
                  case y9a810 => (intro w hSw; go_simp; (try with_reducible rfl))
                  (try simp only [Act.put]); (try simp only [List.setIfInBounds_toArray]); (try simp only [List.set_cons_succ]); (try simp only [List.set_cons_zero])
                  refine wpAnyH_take (i := 10) (oi := { dst := some 115, op := Go.Op.indexAddr 85 (Go.Operand.tmp 113) (Go.Operand.tmp 114), type := 0, pos := "law.go:167", after := #[{ on := 8, ground := Go.Ground.data }, { on := 9, ground := Go.Ground.data }], guard := none }) (v := ?v10a811) rfl (by kernel_rfl) (by kernel_rfl) (by kernel_rfl) (fun _ _ _ h => h) (Or.inl ⟨by rfl, ?y10a811⟩) (by assumption) ?r10a811
                  case y10a811 => (intro w hSw; go_simp; (try with_reducible rfl))
                  (try simp only [Act.put]); (try simp only [List.setIfInBounds_toArray]); (try simp only [List.set_cons_succ]); (try simp only [List.set_cons_zero])
                  refine wpAnyH_take (i := 12) (oi := { dst := some 117, op := Go.Op.move (Go.Operand.tmp 6), type := 3, pos := "law.go:167", after := #[], guard := none }) (v := ?v12a812) rfl (by kernel_rfl) (by kernel_rfl) (by kernel_rfl) (fun _ _ _ h => h) (Or.inl ⟨by rfl, ?y12a812⟩) (by assumption) ?r12a812
                  case y12a812 => (intro w hSw; go_simp; (try with_reducible rfl))
                  (try simp only [Act.put]); (try simp only [List.setIfInBounds_toArray]); (try simp only [List.set_cons_succ]); (try simp only [List.set_cons_zero])
                  refine wpAnyH_take (i := 13) (oi := { dst := some 118, op := Go.Op.binOp Go.BinOp.add 3 (Go.Operand.tmp 117) (Go.Operand.const (Go.Value.int Go.IntKind.i64 1)) 3, type := 3, pos := "law.go:167", after := #[{ on := 12, ground := Go.Ground.data }], guard := none }) (v := ?v13a813) rfl (by kernel_rfl) (by kernel_rfl) (by kernel_rfl) (fun _ _ _ h => h) (Or.inl ⟨by rfl, ?y13a813⟩) (by assumption) ?r13a813
                  case y13a813 => (intro w hSw; go_simp; (try with_reducible rfl))
                  (try simp only [Act.put]); (try simp only [List.setIfInBounds_toArray]); (try simp only [List.set_cons_succ]); (try simp only [List.set_cons_zero])
                  refine wpAnyH_take (i := 14) (oi := { dst := some 119, op := Go.Op.convert 3 46 (Go.Operand.tmp 118), type := 46, pos := "law.go:167", after := #[{ on := 13, ground := Go.Ground.data }], guard := none }) (v := ?v14a814) rfl (by kernel_rfl) (by kernel_rfl) (by kernel_rfl) (fun _ _ _ h => h) (Or.inl ⟨by rfl, ?y14a814⟩) (by assumption) ?r14a814
                  case y14a814 => (intro w hSw; go_simp; (try with_reducible rfl))
                  (try simp only [Act.put]); (try simp only [List.setIfInBounds_toArray]); (try simp only [List.set_cons_succ]); (try simp only [List.set_cons_zero])
                  refine wpAnyH_ready (rs := [11, 15]) (by kernel_rfl) (by simp) ?_
                  refine AllReadyH.cons (o := { dst := some 116, op := Go.Op.load 107 (Go.Operand.tmp 115), type := 107, pos := "law.go:167", after := #[{ on := 10, ground := Go.Ground.data }], guard := none }) rfl (fun Kc hK => ?_) (AllReadyH.cons (o := { dst := some 120, op := Go.Op.buildSlice 107 1 #[(0, Go.Operand.tmp 119)], type := 107, pos := "law.go:167", after := #[{ on := 14, ground := Go.Ground.data }], guard := none }) rfl (fun Kc hK => ?_) AllReadyH.nil)
                  · go_simp
                    refine hK.out _ _ cm (fun hHeld => ?_)
                    clear hK Kc
                    (try simp only [Act.put]); (try simp only [List.setIfInBounds_toArray]); (try simp only [List.set_cons_succ]); (try simp only [List.set_cons_zero])
                    refine wpAnyH_ready (rs := [15]) (by kernel_rfl) (by simp) ?_
                    refine AllReadyH.cons (o := { dst := some 120, op := Go.Op.buildSlice 107 1 #[(0, Go.Operand.tmp 119)], type := 107, pos := "law.go:167", after := #[{ on := 14, ground := Go.Ground.data }], guard := none }) rfl (fun Kc hK => ?_) AllReadyH.nil
                    go_simp
                    refine hK.out _ _ cm6 (fun hHeld => ?_)
                    clear hK Kc
                    (try simp only [Act.put]); (try simp only [List.setIfInBounds_toArray]); (try simp only [List.set_cons_succ]); (try simp only [List.set_cons_zero])
                    refine wpAnyH_ready (rs := [16]) (by kernel_rfl) (by simp) ?_
                    refine AllReadyH.cons (o := { dst := some 121, op := Go.Op.call { callee := Go.Callee.builtin Go.Builtin.append, args := #[Go.Operand.tmp 116, Go.Operand.tmp 120], argTypes := #[107, 107] }, type := 107, pos := "law.go:167", after := #[{ on := 11, ground := Go.Ground.data }, { on := 15, ground := Go.Ground.data }], guard := none }) rfl (fun Kc hK => ?_) AllReadyH.nil
                    refine step_append_any (P := Try.prog) _ rfl (.tmp 116) (.tmp 120) 107 107 rfl 46 (.int .u64 0) 8 Try.underlying107 infoW46 rfl (.slice ro ll rc) ll xs rfl HOw.out (.slice (some ⟨V.heap.size, 0, none⟩) 1 1) 1 [.int .u64 z] rfl HSr.out (by omega) (by omega) ?_
                    intro v' w7 ha1 ha2 ha3
                    obtain ⟨uo, uc, rfl⟩ := ownN_form ha1
                    have HAp := hidM (HGo.out w7 uo uc ha1 ha2 ha3)
                    obtain ⟨p0, p1, p2⟩ := HMi.out w7 ha2
                    have HP0 := hidM p0
                    clear ha1 ha2 ha3 p0
                    refine hK.out _ _ (HRm.out w7 HP0.out) (fun hHeld => ?_)
                    clear hK Kc
                    (try simp only [Act.put]); (try simp only [List.setIfInBounds_toArray]); (try simp only [List.set_cons_succ]); (try simp only [List.set_cons_zero])
                    refine wpAnyH_take (i := 17) (oi := { dst := some 122, op := Go.Op.indexAddr 85 (Go.Operand.tmp 108) (Go.Operand.tmp 109), type := 0, pos := "law.go:167", after := #[{ on := 3, ground := Go.Ground.data }, { on := 4, ground := Go.Ground.data }, { on := 0, ground := Go.Ground.phase }, { on := 1, ground := Go.Ground.phase }, { on := 2, ground := Go.Ground.phase }, { on := 3, ground := Go.Ground.phase }, { on := 4, ground := Go.Ground.phase }, { on := 5, ground := Go.Ground.phase }, { on := 6, ground := Go.Ground.phase }, { on := 7, ground := Go.Ground.phase }, { on := 8, ground := Go.Ground.phase }, { on := 9, ground := Go.Ground.phase }, { on := 10, ground := Go.Ground.phase }, { on := 11, ground := Go.Ground.phase }, { on := 12, ground := Go.Ground.phase }, { on := 13, ground := Go.Ground.phase }, { on := 14, ground := Go.Ground.phase }, { on := 15, ground := Go.Ground.phase }, { on := 16, ground := Go.Ground.phase }], guard := none }) (v := ?v17c81) rfl (by kernel_rfl) (by kernel_rfl) (by kernel_rfl) (fun _ _ _ h => h) (Or.inl ⟨by rfl, ?y17c81⟩) (by assumption) ?r17c81
                    case y17c81 => (intro w hSw; go_simp; (try with_reducible rfl))
                    (try simp only [Act.put]); (try simp only [List.setIfInBounds_toArray]); (try simp only [List.set_cons_succ]); (try simp only [List.set_cons_zero])
                    refine wpAnyH_ready (rs := [18]) (by kernel_rfl) (by simp) ?_
                    refine AllReadyH.cons (o := { dst := none, op := Go.Op.store 107 (Go.Operand.tmp 122) (Go.Operand.tmp 121), type := 0, pos := "law.go:167", after := #[{ on := 17, ground := Go.Ground.data }, { on := 16, ground := Go.Ground.data }, { on := 16, ground := Go.Ground.chain }, { on := 0, ground := Go.Ground.phase }, { on := 1, ground := Go.Ground.phase }, { on := 2, ground := Go.Ground.phase }, { on := 3, ground := Go.Ground.phase }, { on := 4, ground := Go.Ground.phase }, { on := 5, ground := Go.Ground.phase }, { on := 6, ground := Go.Ground.phase }, { on := 7, ground := Go.Ground.phase }, { on := 8, ground := Go.Ground.phase }, { on := 9, ground := Go.Ground.phase }, { on := 10, ground := Go.Ground.phase }, { on := 11, ground := Go.Ground.phase }, { on := 12, ground := Go.Ground.phase }, { on := 13, ground := Go.Ground.phase }, { on := 14, ground := Go.Ground.phase }, { on := 15, ground := Go.Ground.phase }, { on := 16, ground := Go.Ground.phase }], guard := none }) rfl (fun Kc hK => ?_) AllReadyH.nil
                    go_simp
                    refine hK.out _ _ (HRm.out _ HAp.out.1.room) (fun hHeld => ?_)
                    clear hK Kc
                    (try simp only [Act.put]); (try simp only [List.setIfInBounds_toArray]); (try simp only [List.set_cons_succ]); (try simp only [List.set_cons_zero])
                    refine wpAnyH_done (by kernel_rfl) ?_ _
                    go_wp2_with fail
                    exact ⟨⟨k + 1, by omega, by simp, _, _, HAp.out⟩, by simp [intOf]; omega⟩
                  · go_simp
                    refine hK.out _ _ cm6 (fun hHeld => ?_)
                    clear hK Kc
                    (try simp only [Act.put]); (try simp only [List.setIfInBounds_toArray]); (try simp only [List.set_cons_succ]); (try simp only [List.set_cons_zero])
                    refine wpAnyH_ready (rs := [11]) (by kernel_rfl) (by simp) ?_
                    refine AllReadyH.cons (o := { dst := some 116, op := Go.Op.load 107 (Go.Operand.tmp 115), type := 107, pos := "law.go:167", after := #[{ on := 10, ground := Go.Ground.data }], guard := none }) rfl (fun Kc hK => ?_) AllReadyH.nil
                    go_simp
                    refine hK.out _ _ cm6 (fun hHeld => ?_)
                    clear hK Kc
                    (try simp only [Act.put]); (try simp only [List.setIfInBounds_toArray]); (try simp only [List.set_cons_succ]); (try simp only [List.set_cons_zero])
                    refine wpAnyH_ready (rs := [16]) (by kernel_rfl) (by simp) ?_
                    refine AllReadyH.cons (o := { dst := some 121, op := Go.Op.call { callee := Go.Callee.builtin Go.Builtin.append, args := #[Go.Operand.tmp 116, Go.Operand.tmp 120], argTypes := #[107, 107] }, type := 107, pos := "law.go:167", after := #[{ on := 11, ground := Go.Ground.data }, { on := 15, ground := Go.Ground.data }], guard := none }) rfl (fun Kc hK => ?_) AllReadyH.nil
                    refine step_append_any (P := Try.prog) _ rfl (.tmp 116) (.tmp 120) 107 107 rfl 46 (.int .u64 0) 8 Try.underlying107 infoW46 rfl (.slice ro ll rc) ll xs rfl HOw.out (.slice (some ⟨V.heap.size, 0, none⟩) 1 1) 1 [.int .u64 z] rfl HSr.out (by omega) (by omega) ?_
                    intro v' w7 ha1 ha2 ha3
                    obtain ⟨uo, uc, rfl⟩ := ownN_form ha1
                    have HAp := hidM (HGo.out w7 uo uc ha1 ha2 ha3)
                    obtain ⟨p0, p1, p2⟩ := HMi.out w7 ha2
                    have HP0 := hidM p0
                    clear ha1 ha2 ha3 p0
                    refine hK.out _ _ (HRm.out w7 HP0.out) (fun hHeld => ?_)
                    clear hK Kc
                    (try simp only [Act.put]); (try simp only [List.setIfInBounds_toArray]); (try simp only [List.set_cons_succ]); (try simp only [List.set_cons_zero])
                    refine wpAnyH_take (i := 17) (oi := { dst := some 122, op := Go.Op.indexAddr 85 (Go.Operand.tmp 108) (Go.Operand.tmp 109), type := 0, pos := "law.go:167", after := #[{ on := 3, ground := Go.Ground.data }, { on := 4, ground := Go.Ground.data }, { on := 0, ground := Go.Ground.phase }, { on := 1, ground := Go.Ground.phase }, { on := 2, ground := Go.Ground.phase }, { on := 3, ground := Go.Ground.phase }, { on := 4, ground := Go.Ground.phase }, { on := 5, ground := Go.Ground.phase }, { on := 6, ground := Go.Ground.phase }, { on := 7, ground := Go.Ground.phase }, { on := 8, ground := Go.Ground.phase }, { on := 9, ground := Go.Ground.phase }, { on := 10, ground := Go.Ground.phase }, { on := 11, ground := Go.Ground.phase }, { on := 12, ground := Go.Ground.phase }, { on := 13, ground := Go.Ground.phase }, { on := 14, ground := Go.Ground.phase }, { on := 15, ground := Go.Ground.phase }, { on := 16, ground := Go.Ground.phase }], guard := none }) (v := ?v17e81) rfl (by kernel_rfl) (by kernel_rfl) (by kernel_rfl) (fun _ _ _ h => h) (Or.inl ⟨by rfl, ?y17e81⟩) (by assumption) ?r17e81
                    case y17e81 => (intro w hSw; go_simp; (try with_reducible rfl))
                    (try simp only [Act.put]); (try simp only [List.setIfInBounds_toArray]); (try simp only [List.set_cons_succ]); (try simp only [List.set_cons_zero])
                    refine wpAnyH_ready (rs := [18]) (by kernel_rfl) (by simp) ?_
                    refine AllReadyH.cons (o := { dst := none, op := Go.Op.store 107 (Go.Operand.tmp 122) (Go.Operand.tmp 121), type := 0, pos := "law.go:167", after := #[{ on := 17, ground := Go.Ground.data }, { on := 16, ground := Go.Ground.data }, { on := 16, ground := Go.Ground.chain }, { on := 0, ground := Go.Ground.phase }, { on := 1, ground := Go.Ground.phase }, { on := 2, ground := Go.Ground.phase }, { on := 3, ground := Go.Ground.phase }, { on := 4, ground := Go.Ground.phase }, { on := 5, ground := Go.Ground.phase }, { on := 6, ground := Go.Ground.phase }, { on := 7, ground := Go.Ground.phase }, { on := 8, ground := Go.Ground.phase }, { on := 9, ground := Go.Ground.phase }, { on := 10, ground := Go.Ground.phase }, { on := 11, ground := Go.Ground.phase }, { on := 12, ground := Go.Ground.phase }, { on := 13, ground := Go.Ground.phase }, { on := 14, ground := Go.Ground.phase }, { on := 15, ground := Go.Ground.phase }, { on := 16, ground := Go.Ground.phase }], guard := none }) rfl (fun Kc hK => ?_) AllReadyH.nil
                    go_simp
                    refine hK.out _ _ (HRm.out _ HAp.out.1.room) (fun hHeld => ?_)
                    clear hK Kc
                    (try simp only [Act.put]); (try simp only [List.setIfInBounds_toArray]); (try simp only [List.set_cons_succ]); (try simp only [List.set_cons_zero])
                    refine wpAnyH_done (by kernel_rfl) ?_ _
                    go_wp2_with fail
                    exact ⟨⟨k + 1, by omega, by simp, _, _, HAp.out⟩, by simp [intOf]; omega⟩
                · have hkn' : N8 = k := by omega
                  subst hkn'
                  obtain ⟨S8, rfl⟩ : ∃ S8, S8 = R := ⟨_, rfl⟩
                  obtain ⟨p8, rfl⟩ : ∃ p8, p8 = l := ⟨_, rfl⟩
                  replace HA := hidM HX.out.1
                  clear HX hk hkn
                  go_wp2_with fail
                  clear cm
                  have HLE1 : Hid (∀ k ll : Nat, k < N1 → ll = p1 k → ll ≤ 9223372036854775807) := fun k ll hk e => by
                    obtain ⟨xs, h1, _⟩ := HA.out.n1.inner k hk
                    rcases h1.2 with ⟨_, h2⟩ | ⟨_, _, _, _, _, _, h3, h4, _⟩
                    · omega
                    · exact e ▸ Nat.le_trans h3 h4
                  have HLE2 : Hid (∀ k ll : Nat, k < N2 → ll = p2 k → ll ≤ 9223372036854775807) := fun k ll hk e => by
                    obtain ⟨xs, h1, _⟩ := HA.out.n2.inner k hk
                    rcases h1.2 with ⟨_, h2⟩ | ⟨_, _, _, _, _, _, h3, h4, _⟩
                    · omega
                    · exact e ▸ Nat.le_trans h3 h4
                  have HLE4 : Hid (∀ k ll : Nat, k < N4 → ll = p4 k → ll ≤ 9223372036854775807) := fun k ll hk e => by
                    obtain ⟨xs, h1, _⟩ := HA.out.n4.inner k hk
                    rcases h1.2 with ⟨_, h2⟩ | ⟨_, _, _, _, _, _, h3, h4, _⟩
                    · omega
                    · exact e ▸ Nat.le_trans h3 h4
                  have HLE8 : Hid (∀ k ll : Nat, k < N8 → ll = p8 k → ll ≤ 9223372036854775807) := fun k ll hk e => by
                    obtain ⟨xs, h1, _⟩ := HA.out.n8.inner k hk
                    rcases h1.2 with ⟨_, h2⟩ | ⟨_, _, _, _, _, _, h3, h4, _⟩
                    · omega
                    · exact e ▸ Nat.le_trans h3 h4
                  have cm1 := HA.out.room' HE1.out
                  go_loopw [7] (fun p wr => ∃ k : Nat, k ≤ N1 ∧ p = .int .i64 (k : Int) ∧ V = wr) (fun p _ => N1 - (intOf p).toNat)
                  case atStart => exact ⟨0, by omega, rfl, rfl⟩
                  case round =>
                    obtain ⟨k, hk, rfl, rfl⟩ := hrel
                    by_cases hkn : k < N1
                    · obtain ⟨g, ec, hv⟩ := own_some HA.out.n1.outer (by omega)
                      simp only [Value.slice.injEq] at hv
                      obtain ⟨rfl, -, rfl⟩ := hv
                      have cg := HA.out.n1.cell hkn
                      obtain ⟨xs, hx, hmk⟩ := HA.out.n1.inner k hkn
                      obtain ⟨ro, rc, hro⟩ := ownN_form hx
                      rw [hro] at cg hx
                      have hkI : (k : Int) < (N1 : Int) := by omega
                      obtain ⟨ll, hll⟩ : ∃ ll, ll = p1 k := ⟨_, rfl⟩
                      rw [← hll] at cg hx hmk
                      have h64 : IntKind.i64.wrap ((k : Int) + 1) = (k : Int) + 1 := by rw [IntKind.wrap_i64]; omega
                      obtain ⟨z, hz⟩ : ∃ z, IntKind.u8.wrap ((k : Int) + 1) = z := ⟨_, rfl⟩
                      have hkz : k1 k = z := (HK1.out k).trans hz
                      rw [hkz] at hmk
                      have hllm : ll ≤ 9223372036854775807 := HLE1.out k ll hkn hll
                      have HXR := hidM (And.intro hx hmk)
                      clear hro hll hx hmk hkz
                      go_wp2_with fail
                      go_loopw [8] (fun p wr => ∃ j : Nat, j ≤ ll ∧ p = .int .i64 (j : Int) ∧ V = wr) (fun p _ => ll - (intOf p).toNat)
                      case atStart => exact ⟨0, by omega, rfl, rfl⟩
                      case round =>
                        obtain ⟨j, hj, rfl, rfl⟩ := hrel
                        by_cases hjl : j < ll
                        · obtain ⟨gi, ci, hvi⟩ := own_some HXR.out.1 (by omega)
                          simp only [Value.slice.injEq] at hvi
                          obtain ⟨rfl, -, rfl⟩ := hvi
                          have cj : V.cell? ⟨gi, j, none⟩ = some (.int .u8 z) := by
                            have h1 := HXR.out.1.cells (g := gi) rfl j _ (HXR.out.2 j hjl)
                            rwa [add_lit0] at h1
                          have hjI : (j : Int) < (ll : Int) := by omega
                          have hne : (z != z) = false := by simp
                          go_wp2_with fail
                          exact ⟨⟨j + 1, by omega, by simp, by first | rfl | trivial⟩, by simp [intOf]; omega⟩
                        · have hjl' : ll = j := by omega
                          subst hjl'
                          go_wp2_with fail
                          exact ⟨⟨k + 1, by omega, by simp, by first | rfl | trivial⟩, by simp [intOf]; omega⟩
                    · have hkn' : N1 = k := by omega
                      subst hkn'
                      clear hk hkn
                      go_wp2_with fail
                      have cm2 := HA.out.room' HE2.out
                      go_loopw [9] (fun p wr => ∃ k : Nat, k ≤ N2 ∧ p = .int .i64 (k : Int) ∧ V = wr) (fun p _ => N2 - (intOf p).toNat)
                      case atStart => exact ⟨0, by omega, rfl, rfl⟩
                      case round =>
                        obtain ⟨k, hk, rfl, rfl⟩ := hrel
                        by_cases hkn : k < N2
                        · obtain ⟨g, ec, hv⟩ := own_some HA.out.n2.outer (by omega)
                          simp only [Value.slice.injEq] at hv
                          obtain ⟨rfl, -, rfl⟩ := hv
                          have cg := HA.out.n2.cell hkn
                          obtain ⟨xs, hx, hmk⟩ := HA.out.n2.inner k hkn
                          obtain ⟨ro, rc, hro⟩ := ownN_form hx
                          rw [hro] at cg hx
                          have hkI : (k : Int) < (N2 : Int) := by omega
                          obtain ⟨ll, hll⟩ : ∃ ll, ll = p2 k := ⟨_, rfl⟩
                          rw [← hll] at cg hx hmk
                          have h64 : IntKind.i64.wrap ((k : Int) + 1) = (k : Int) + 1 := by rw [IntKind.wrap_i64]; omega
                          obtain ⟨z, hz⟩ : ∃ z, IntKind.u16.wrap ((k : Int) + 1) = z := ⟨_, rfl⟩
                          have hkz : k2 k = z := (HK2.out k).trans hz
                          rw [hkz] at hmk
                          have hllm : ll ≤ 9223372036854775807 := HLE2.out k ll hkn hll
                          have HXR := hidM (And.intro hx hmk)
                          clear hro hll hx hmk hkz
                          go_wp2_with fail
                          go_loopw [10] (fun p wr => ∃ j : Nat, j ≤ ll ∧ p = .int .i64 (j : Int) ∧ V = wr) (fun p _ => ll - (intOf p).toNat)
                          case atStart => exact ⟨0, by omega, rfl, rfl⟩
                          case round =>
                            obtain ⟨j, hj, rfl, rfl⟩ := hrel
                            by_cases hjl : j < ll
                            · obtain ⟨gi, ci, hvi⟩ := own_some HXR.out.1 (by omega)
                              simp only [Value.slice.injEq] at hvi
                              obtain ⟨rfl, -, rfl⟩ := hvi
                              have cj : V.cell? ⟨gi, j, none⟩ = some (.int .u16 z) := by
                                have h1 := HXR.out.1.cells (g := gi) rfl j _ (HXR.out.2 j hjl)
                                rwa [add_lit0] at h1
                              have hjI : (j : Int) < (ll : Int) := by omega
                              have hne : (z != z) = false := by simp
                              go_wp2_with fail
                              exact ⟨⟨j + 1, by omega, by simp, by first | rfl | trivial⟩, by simp [intOf]; omega⟩
                            · have hjl' : ll = j := by omega
                              subst hjl'
                              go_wp2_with fail
                              exact ⟨⟨k + 1, by omega, by simp, by first | rfl | trivial⟩, by simp [intOf]; omega⟩
                        · have hkn' : N2 = k := by omega
                          subst hkn'
                          clear hk hkn
                          go_wp2_with fail
                          have cm4 := HA.out.room' HE4.out
                          go_loopw [11] (fun p wr => ∃ k : Nat, k ≤ N4 ∧ p = .int .i64 (k : Int) ∧ V = wr) (fun p _ => N4 - (intOf p).toNat)
                          case atStart => exact ⟨0, by omega, rfl, rfl⟩
                          case round =>
                            obtain ⟨k, hk, rfl, rfl⟩ := hrel
                            by_cases hkn : k < N4
                            · obtain ⟨g, ec, hv⟩ := own_some HA.out.n4.outer (by omega)
                              simp only [Value.slice.injEq] at hv
                              obtain ⟨rfl, -, rfl⟩ := hv
                              have cg := HA.out.n4.cell hkn
                              obtain ⟨xs, hx, hmk⟩ := HA.out.n4.inner k hkn
                              obtain ⟨ro, rc, hro⟩ := ownN_form hx
                              rw [hro] at cg hx
                              have hkI : (k : Int) < (N4 : Int) := by omega
                              obtain ⟨ll, hll⟩ : ∃ ll, ll = p4 k := ⟨_, rfl⟩
                              rw [← hll] at cg hx hmk
                              have h64 : IntKind.i64.wrap ((k : Int) + 1) = (k : Int) + 1 := by rw [IntKind.wrap_i64]; omega
                              obtain ⟨z, hz⟩ : ∃ z, IntKind.u32.wrap ((k : Int) + 1) = z := ⟨_, rfl⟩
                              have hkz : k4 k = z := (HK4.out k).trans hz
                              rw [hkz] at hmk
                              have hllm : ll ≤ 9223372036854775807 := HLE4.out k ll hkn hll
                              have HXR := hidM (And.intro hx hmk)
                              clear hro hll hx hmk hkz
                              go_wp2_with fail
                              go_loopw [12] (fun p wr => ∃ j : Nat, j ≤ ll ∧ p = .int .i64 (j : Int) ∧ V = wr) (fun p _ => ll - (intOf p).toNat)
                              case atStart => exact ⟨0, by omega, rfl, rfl⟩
                              case round =>
                                obtain ⟨j, hj, rfl, rfl⟩ := hrel
                                by_cases hjl : j < ll
                                · obtain ⟨gi, ci, hvi⟩ := own_some HXR.out.1 (by omega)
                                  simp only [Value.slice.injEq] at hvi
                                  obtain ⟨rfl, -, rfl⟩ := hvi
                                  have cj : V.cell? ⟨gi, j, none⟩ = some (.int .u32 z) := by
                                    have h1 := HXR.out.1.cells (g := gi) rfl j _ (HXR.out.2 j hjl)
                                    rwa [add_lit0] at h1
                                  have hjI : (j : Int) < (ll : Int) := by omega
                                  have hne : (z != z) = false := by simp
                                  go_wp2_with fail
                                  exact ⟨⟨j + 1, by omega, by simp, by first | rfl | trivial⟩, by simp [intOf]; omega⟩
                                · have hjl' : ll = j := by omega
                                  subst hjl'
                                  go_wp2_with fail
                                  exact ⟨⟨k + 1, by omega, by simp, by first | rfl | trivial⟩, by simp [intOf]; omega⟩
                            · have hkn' : N4 = k := by omega
                              subst hkn'
                              clear hk hkn
                              go_wp2_with fail
                              have cm8 := HA.out.room' HE8.out
                              go_loopw [13] (fun p wr => ∃ k : Nat, k ≤ N8 ∧ p = .int .i64 (k : Int) ∧ V = wr) (fun p _ => N8 - (intOf p).toNat)
                              case atStart => exact ⟨0, by omega, rfl, rfl⟩
                              case round =>
                                obtain ⟨k, hk, rfl, rfl⟩ := hrel
                                by_cases hkn : k < N8
                                · obtain ⟨g, ec, hv⟩ := own_some HA.out.n8.outer (by omega)
                                  simp only [Value.slice.injEq] at hv
                                  obtain ⟨rfl, -, rfl⟩ := hv
                                  have cg := HA.out.n8.cell hkn
                                  obtain ⟨xs, hx, hmk⟩ := HA.out.n8.inner k hkn
                                  obtain ⟨ro, rc, hro⟩ := ownN_form hx
                                  rw [hro] at cg hx
                                  have hkI : (k : Int) < (N8 : Int) := by omega
                                  obtain ⟨ll, hll⟩ : ∃ ll, ll = p8 k := ⟨_, rfl⟩
                                  rw [← hll] at cg hx hmk
                                  have h64 : IntKind.i64.wrap ((k : Int) + 1) = (k : Int) + 1 := by rw [IntKind.wrap_i64]; omega
                                  obtain ⟨z, hz⟩ : ∃ z, IntKind.u64.wrap ((k : Int) + 1) = z := ⟨_, rfl⟩
                                  have hkz : k8 k = z := (HK8.out k).trans hz
                                  rw [hkz] at hmk
                                  have hllm : ll ≤ 9223372036854775807 := HLE8.out k ll hkn hll
                                  have HXR := hidM (And.intro hx hmk)
                                  clear hro hll hx hmk hkz
                                  go_wp2_with fail
                                  go_loopw [14] (fun p wr => ∃ j : Nat, j ≤ ll ∧ p = .int .i64 (j : Int) ∧ V = wr) (fun p _ => ll - (intOf p).toNat)
                                  case atStart => exact ⟨0, by omega, rfl, rfl⟩
                                  case round =>
                                    obtain ⟨j, hj, rfl, rfl⟩ := hrel
                                    by_cases hjl : j < ll
                                    · obtain ⟨gi, ci, hvi⟩ := own_some HXR.out.1 (by omega)
                                      simp only [Value.slice.injEq] at hvi
                                      obtain ⟨rfl, -, rfl⟩ := hvi
                                      have cj : V.cell? ⟨gi, j, none⟩ = some (.int .u64 z) := by
                                        have h1 := HXR.out.1.cells (g := gi) rfl j _ (HXR.out.2 j hjl)
                                        rwa [add_lit0] at h1
                                      have hjI : (j : Int) < (ll : Int) := by omega
                                      have hne : (z != z) = false := by simp
                                      go_wp2_with fail
                                      exact ⟨⟨j + 1, by omega, by simp, by first | rfl | trivial⟩, by simp [intOf]; omega⟩
                                    · have hjl' : ll = j := by omega
                                      subst hjl'
                                      go_wp2_with fail
                                      exact ⟨⟨k + 1, by omega, by simp, by first | rfl | trivial⟩, by simp [intOf]; omega⟩
                                · have hkn' : N8 = k := by omega
                                  subst hkn'
                                  clear hk hkn
                                  go_wp2_with fail
                                  go_ret
                                  exact ⟨rfl, HA.out.kp⟩
end Go.Proofs.Ytomlndoffoeaiaa.Kit
