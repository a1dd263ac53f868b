import Derived.Test.YtfepbpibhcfjdaaDoorSJ
namespace Go.Proofs.YtfepbpibhcfjdaaDoor.Kit
open Go.RowKit Go.Shelf Go.Deep
set_option linter.unusedVariables false
attribute [local go_sem] run_store_func

set_option maxRecDepth 100000 in
set_option maxHeartbeats 2000000 in
theorem fieldTextR_walk (f0 : ByteArray) (f1 : Bool) (f2 f3 f4 f5 : Int) (ao : Option Addr) (f6 ca : Nat) (t : ByteArray) (w : World) (hf0 : f0.size ≤ 1000000000) (ht : t.size ≤ 1000000000)
    (h : AnsV 52 #[.agg #[.int .i64 f2, .int .i64 f3, .int .i64 f4, .int .i64 f5, .slice ao f6 ca]] (.string t) w) :
    AnsV 31 #[.agg #[.string f0, .bool f1, .int .i64 f2, .int .i64 f3, .int .i64 f4, .int .i64 f5, .slice ao f6 ca]] (.string (if f1 then f0 ++ ⟨#[32]⟩ ++ t ++ ⟨#[63]⟩ else f0 ++ ⟨#[32]⟩ ++ t)) w := by
  intro W g
  have H : Hid (∀ W', Gr W W' → Calls Tryd.prog 52 #[.agg #[.int .i64 f2, .int .i64 f3, .int .i64 f4, .int .i64 f5, .slice ao f6 ca]] W' fun e w' => e = .returned (.string t) ∧ Gr W' w') := fun W' g' => h W' (g.trans g' (fun _ _ h => h))
  have z1 : (f0 ++ (⟨#[32]⟩ : ByteArray)).size = f0.size + 1 := by rw [ByteArray.size_append]; rfl
  have z2 : (f0 ++ (⟨#[32]⟩ : ByteArray) ++ t).size = f0.size + 1 + t.size := by rw [ByteArray.size_append, z1]
  have m1 := add_run f0 ⟨#[32]⟩ (by show f0.size + 1 ≤ _; omega)
  have m2 := add_run (f0 ++ ⟨#[32]⟩) t (by rw [z1]; omega)
  have m3 := add_run (f0 ++ ⟨#[32]⟩ ++ t) ⟨#[63]⟩ (by rw [z2]; show _ + 1 ≤ _; omega)
  have x1 := World.alloc_heap_new W (.cells #[.string f0, .bool f1, .int .i64 f2, .int .i64 f3, .int .i64 f4, .int .i64 f5, .slice ao f6 ca] 35)
  have hg0 := gr_alloc W (.cells #[.string f0, .bool f1, .int .i64 f2, .int .i64 f3, .int .i64 f4, .int .i64 f5, .slice ao f6 ca] 35)
  clear h g z1 z2 hf0 ht
  go_enter Tryd.func31, Tryd.ntmps31
  go_wp2_with fail
  generalize W.alloc (.cells #[.string f0, .bool f1, .int .i64 f2, .int .i64 f3, .int .i64 f4, .int .i64 f5, .slice ao f6 ca] 35) = W0 at *
  obtain ⟨B, hB⟩ : ∃ B, B = W.heap.size := ⟨_, rfl⟩
  rw [← hB] at x1 ⊢
  obtain ⟨q0, q1, q2, q3, q4, q5, q6⟩ := cell7 x1
  have HIN : Hid (Hid (Gr W W0.drew) ∧ W0.drew.cell? ⟨B, 0, none⟩ = some (.string f0) ∧ W0.drew.cell? ⟨B, 1, none⟩ = some (.bool f1) ∧ W0.drew.cell? ⟨B, 2, none⟩ = some (.int .i64 f2) ∧ W0.drew.cell? ⟨B, 3, none⟩ = some (.int .i64 f3) ∧ W0.drew.cell? ⟨B, 4, none⟩ = some (.int .i64 f4) ∧ W0.drew.cell? ⟨B, 5, none⟩ = some (.int .i64 f5) ∧ W0.drew.cell? ⟨B, 6, none⟩ = some (.slice ao f6 ca)) := ⟨hg0.trans gr_drew (fun _ _ h => h), q0, q1, q2, q3, q4, q5, q6⟩
  have HSk : Hid (∀ A C : World, (Hid (Gr W A) ∧ A.cell? ⟨B, 0, none⟩ = some (.string f0) ∧ A.cell? ⟨B, 1, none⟩ = some (.bool f1) ∧ A.cell? ⟨B, 2, none⟩ = some (.int .i64 f2) ∧ A.cell? ⟨B, 3, none⟩ = some (.int .i64 f3) ∧ A.cell? ⟨B, 4, none⟩ = some (.int .i64 f4) ∧ A.cell? ⟨B, 5, none⟩ = some (.int .i64 f5) ∧ A.cell? ⟨B, 6, none⟩ = some (.slice ao f6 ca)) → Gr A C → (Hid (Gr W C) ∧ C.cell? ⟨B, 0, none⟩ = some (.string f0) ∧ C.cell? ⟨B, 1, none⟩ = some (.bool f1) ∧ C.cell? ⟨B, 2, none⟩ = some (.int .i64 f2) ∧ C.cell? ⟨B, 3, none⟩ = some (.int .i64 f3) ∧ C.cell? ⟨B, 4, none⟩ = some (.int .i64 f4) ∧ C.cell? ⟨B, 5, none⟩ = some (.int .i64 f5) ∧ C.cell? ⟨B, 6, none⟩ = some (.slice ao f6 ca))) := fun A C h k => ⟨h.1.out.trans k (fun _ _ h => h), k.cell' h.2.1 id, k.cell' h.2.2.1 id, k.cell' h.2.2.2.1 id, k.cell' h.2.2.2.2.1 id, k.cell' h.2.2.2.2.2.1 id, k.cell' h.2.2.2.2.2.2.1 id, k.cell' h.2.2.2.2.2.2.2 id⟩
  clear hg0 q0 q1 q2 q3 q4 q5 q6 hB x1
  refine wp_region_held_drew (S := fun w' => Hid (Gr W w') ∧ w'.cell? ⟨B, 0, none⟩ = some (.string f0) ∧ w'.cell? ⟨B, 1, none⟩ = some (.bool f1) ∧ w'.cell? ⟨B, 2, none⟩ = some (.int .i64 f2) ∧ w'.cell? ⟨B, 3, none⟩ = some (.int .i64 f3) ∧ w'.cell? ⟨B, 4, none⟩ = some (.int .i64 f4) ∧ w'.cell? ⟨B, 5, none⟩ = some (.int .i64 f5) ∧ w'.cell? ⟨B, 6, none⟩ = some (.slice ao f6 ca)) (by kernel_rfl) (HIN.out) (fun hHeld => ?_)
  refine wpAnyH_take (i := 0) (oi := { dst := some 4, op := Op.fieldAddr 35 (Operand.tmp 1) 0, type := 0, pos := "text.go:51", after := #[], guard := none }) (v := ?v0c1) rfl (by kernel_rfl) (by kernel_rfl) (by kernel_rfl) (fun _ _ _ h => h) (Or.inl ⟨by rfl, ?y0c1⟩) (by assumption) ?r0c1
  case y0c1 => (intro w hSw; obtain ⟨-, s1, s2, s3, s4, s5, s6, s7⟩ := hSw; go_simp; (try with_reducible rfl))
  (try simp only [Act.put]); (try simp only [List.setIfInBounds_toArray]); (try simp only [List.set_cons_succ]); (try simp only [List.set_cons_zero])
  refine wpAnyH_take (i := 1) (oi := { dst := some 5, op := Op.load 9 (Operand.tmp 4), type := 9, pos := "text.go:51", after := #[{ on := 0, ground := Ground.data }], guard := none }) (v := ?v1c2) rfl (by kernel_rfl) (by kernel_rfl) (by kernel_rfl) (fun _ _ _ h => h) (Or.inl ⟨by rfl, ?y1c2⟩) (by assumption) ?r1c2
  case y1c2 => (intro w hSw; obtain ⟨-, s1, s2, s3, s4, s5, s6, s7⟩ := hSw; go_simp; (try with_reducible rfl))
  (try simp only [Act.put]); (try simp only [List.setIfInBounds_toArray]); (try simp only [List.set_cons_succ]); (try simp only [List.set_cons_zero])
  refine wpAnyH_take (i := 2) (oi := { dst := some 6, op := Op.binOp BinOp.add 9 (Operand.tmp 5) (Operand.const (Value.string { data := #[32] })) 9, type := 9, pos := "text.go:51", after := #[{ on := 1, ground := Ground.data }], guard := none }) (v := ?v2c3) rfl (by kernel_rfl) (by kernel_rfl) (by kernel_rfl) (fun _ _ _ h => h) (Or.inl ⟨by rfl, ?y2c3⟩) (by assumption) ?r2c3
  case y2c3 => (intro w hSw; obtain ⟨-, s1, s2, s3, s4, s5, s6, s7⟩ := hSw; go_simp; (try with_reducible rfl))
  (try simp only [Act.put]); (try simp only [List.setIfInBounds_toArray]); (try simp only [List.set_cons_succ]); (try simp only [List.set_cons_zero])
  refine wpAnyH_take (i := 3) (oi := { dst := some 7, op := Op.fieldAddr 35 (Operand.tmp 1) 2, type := 0, pos := "text.go:51", after := #[], guard := none }) (v := ?v3c4) rfl (by kernel_rfl) (by kernel_rfl) (by kernel_rfl) (fun _ _ _ h => h) (Or.inl ⟨by rfl, ?y3c4⟩) (by assumption) ?r3c4
  case y3c4 => (intro w hSw; obtain ⟨-, s1, s2, s3, s4, s5, s6, s7⟩ := hSw; go_simp; (try with_reducible rfl))
  (try simp only [Act.put]); (try simp only [List.setIfInBounds_toArray]); (try simp only [List.set_cons_succ]); (try simp only [List.set_cons_zero])
  refine wpAnyH_take (i := 4) (oi := { dst := some 8, op := Op.load 33 (Operand.tmp 7), type := 33, pos := "text.go:51", after := #[{ on := 3, ground := Ground.data }], guard := none }) (v := ?v4c5) rfl (by kernel_rfl) (by kernel_rfl) (by kernel_rfl) (fun _ _ _ h => h) (Or.inl ⟨by rfl, ?y4c5⟩) (by assumption) ?r4c5
  case y4c5 => (intro w hSw; obtain ⟨-, s1, s2, s3, s4, s5, s6, s7⟩ := hSw; go_simp; (try with_reducible rfl))
  (try simp only [Act.put]); (try simp only [List.setIfInBounds_toArray]); (try simp only [List.set_cons_succ]); (try simp only [List.set_cons_zero])
  refine wpAnyH_ready (rs := [5]) (by kernel_rfl) (by simp) ?_
  refine AllReadyH.cons (o := { dst := some 9, op := Op.call { callee := Callee.value (Operand.func 52), args := #[Operand.tmp 8], argTypes := #[33] }, type := 9, pos := "text.go:51", after := #[{ on := 4, ground := Ground.data }], guard := none }) rfl (fun K hK => ?_) AllReadyH.nil
  go_simp
  go_at_call 52
  refine Calls.mono (H.out _ hHeld.1.out) ?_
  rintro e' v1 ⟨rfl, hk1⟩
  go_wp2_with fail
  refine hK.out _ _ (HSk.out _ _ hHeld hk1) (fun hHeld => ?_)
  clear hK K
  (try simp only [Act.put]); (try simp only [List.setIfInBounds_toArray]); (try simp only [List.set_cons_succ]); (try simp only [List.set_cons_zero])
  clear hk1
  refine wpAnyH_take (i := 6) (oi := { dst := some 10, op := Op.binOp BinOp.add 9 (Operand.tmp 6) (Operand.tmp 9) 9, type := 9, pos := "text.go:51", after := #[{ on := 2, ground := Ground.data }, { on := 5, ground := Ground.data }], guard := none }) (v := ?v6c6) rfl (by kernel_rfl) (by kernel_rfl) (by kernel_rfl) (fun _ _ _ h => h) (Or.inl ⟨by rfl, ?y6c6⟩) (by assumption) ?r6c6
  case y6c6 => (intro w hSw; obtain ⟨-, s1, s2, s3, s4, s5, s6, s7⟩ := hSw; go_simp; (try with_reducible rfl))
  (try simp only [Act.put]); (try simp only [List.setIfInBounds_toArray]); (try simp only [List.set_cons_succ]); (try simp only [List.set_cons_zero])
  refine wpAnyH_take (i := 7) (oi := { dst := some 3, op := Op.assign (Operand.tmp 10), type := 9, pos := "text.go:51", after := #[{ on := 6, ground := Ground.data }, { on := 5, ground := Ground.chain }, { on := 0, ground := Ground.phase }, { on := 1, ground := Ground.phase }, { on := 2, ground := Ground.phase }, { on := 3, ground := Ground.phase }, { on := 4, ground := Ground.phase }, { on := 5, ground := Ground.phase }, { on := 6, ground := Ground.phase }], guard := none }) (v := ?v7c7) rfl (by kernel_rfl) (by kernel_rfl) (by kernel_rfl) (fun _ _ _ h => h) (Or.inl ⟨by rfl, ?y7c7⟩) (by assumption) ?r7c7
  case y7c7 => (intro w hSw; obtain ⟨-, s1, s2, s3, s4, s5, s6, s7⟩ := hSw; go_simp; (try with_reducible rfl))
  (try simp only [Act.put]); (try simp only [List.setIfInBounds_toArray]); (try simp only [List.set_cons_succ]); (try simp only [List.set_cons_zero])
  refine wpAnyH_done (by kernel_rfl) ?_ _
  have HG := hidM hHeld.1.out
  have q1 := hHeld.2.2.1
  clear hHeld HIN HSk H
  cases f1 with
  | true =>
    go_wp2_with fail
    go_ret
    exact ⟨rfl, HG.out⟩
  | false =>
    go_wp2_with fail
    go_ret
    exact ⟨rfl, HG.out⟩
theorem sum_take (l : List ByteArray) : ∀ k, ((l.take k).map fun t => t.size + 2).sum ≤ (l.map fun t => t.size + 2).sum := fun k => by
  have : (l.map fun t => t.size + 2).sum = ((l.take k).map fun t => t.size + 2).sum + ((l.drop k).map fun t => t.size + 2).sum := by
    rw [← List.sum_append, ← List.map_append, List.take_append_drop]
  omega
theorem sum_mem {l : List ByteArray} {x : ByteArray} (h : x ∈ l) : x.size + 2 ≤ (l.map fun t => t.size + 2).sum := by
  induction l with
  | nil => simp at h
  | cons y l ih =>
    rw [List.map_cons, List.sum_cons]
    rcases List.mem_cons.1 h with rfl | h
    · omega
    · have := ih h; omega
set_option maxRecDepth 100000 in
set_option maxHeartbeats 2000000 in
theorem fieldsTextR_walk (l : List FT) (tx : FT → ByteArray) (S : Nat → Prop) (d : Nat) (ao : Option Addr) (ca : Nat) (w : World) (hr : RowAt S w d ao l) (hS : ∀ b, S b → b < w.heap.size) (hsz : ((l.map tx).map fun t => t.size + 2).sum ≤ 1000000)
    (h : ∀ i (hi : i < l.length) ao' ca', RowAt S w (d - 1) ao' l[i].kids → l[i].kids.length ≤ ca' → AnsV 31 #[fldV l[i] ao' ca'] (.string (tx l[i])) w) :
    AnsV 26 #[.slice ao l.length ca] (.string (joinB (l.map tx))) w := by
  intro W g
  have hlen : l.length ≤ 1000000000000 := hr.len
  have HR : Hid (l ≠ [] → ∃ b o, ao = some ⟨b, o, none⟩ ∧ ∀ i (h : i < l.length), ∃ ao' ca', CellsAt W b (o + i * 7) l[i] ao' ca' ∧ ∀ W', Gr W W' → Calls Tryd.prog 31 #[fldV l[i] ao' ca'] W' fun e w' => e = .returned (.string (tx l[i])) ∧ Gr W' w') := fun hne => by
    cases d with
    | zero => exact absurd hr hne
    | succ d =>
      obtain ⟨b, o, e, hb, hc⟩ := hr.2 hne
      exact ⟨b, o, e, fun i hi => by obtain ⟨a, c, h1, h2, h3⟩ := hc i hi; exact ⟨a, c, h1.kept (g.block b (hS b hb) id), fun W' g' => h i hi a c h3 h2 W' (g.trans g' (fun _ _ h => h))⟩⟩
  have HSz : Hid (∀ k, (joinB ((l.take k).map tx)).size ≤ 1000000) := fun k => by
    have h1 := joinB_size ((l.take k).map tx)
    have h2 := sum_take (l.map tx) k
    rw [← List.map_take] at h2
    omega
  have HSm : Hid (∀ k (hk : k < l.length), (tx l[k]).size ≤ 1000000) := fun k hk => by
    have := sum_mem (List.mem_map_of_mem (f := tx) (List.getElem_mem hk))
    omega
  obtain ⟨L, hL⟩ : ∃ L, L = l.length := ⟨_, rfl⟩
  rw [← hL] at hlen ⊢
  have HL : Hid (L = l.length) := hL
  clear hr hS h hL g hsz
  go_enter Tryd.func26, Tryd.ntmps26
  go_wp2
  go_loopw [3, 8] (fun v i wr => ∃ (k : Nat) (jk : ByteArray), k ≤ L ∧ jk.size ≤ 1000000 ∧ i = .int .i64 (k : Int) ∧ v = .string jk ∧ Hid (jk = joinB ((l.take k).map tx) ∧ Gr W wr)) (fun _ i _ => L - (intOf i).toNat)
  case atStart => exact ⟨0, ⟨#[]⟩, by omega, by show 0 ≤ _; omega, rfl, rfl, rfl, Keeps.refl _ _⟩
  case round =>
    obtain ⟨k, jk, hk, hjk, rfl, rfl, HK⟩ := hrel
    by_cases hlt : k < L
    · have hl := HL.out
      have hkl : k < l.length := by omega
      obtain ⟨b, o, rfl, hcs⟩ := HR.out (fun e => by rw [e] at hkl; simp at hkl)
      obtain ⟨ao', ca', hc, hcall⟩ := hcs k hkl
      have hgr := HK.out.2
      obtain ⟨g0, g1, g2, g3, g4, g5, g6⟩ := hc.kept (hgr.block b (block_lt_of_cell hc.c0) (fun h => h))
      have HTK : Hid ((l.take (k + 1)).map tx = (l.take k).map tx ++ [tx l[k]]) := by show _ = _; rw [List.take_add_one, List.getElem?_eq_getElem hkl, List.map_append]; rfl
      have htk := HSm.out k hkl
      have hnew := HSz.out (k + 1)
      rw [HTK.out] at hnew
      have HNE : Hid (0 < k → (l.take k).map tx ≠ []) := fun h0 e => by
        have := congrArg List.length e
        rw [List.length_map, List.length_take, List.length_nil] at this
        omega
      unfold fldV at hcall
      have HC : Hid (∀ W', Gr W W' → Calls Tryd.prog 31 #[.agg #[.string l[k].name, .bool l[k].nul, .int .i64 l[k].kind, .int .i64 l[k].width, .int .i64 l[k].id, .int .i64 l[k].index, .slice ao' l[k].kids.length ca']] W' fun e w' => e = .returned (.string (tx l[k])) ∧ Gr W' w') := hcall
      generalize tx l[k] = tk at *
      generalize l[k].name = f0 at *
      generalize l[k].nul = f1 at *
      generalize l[k].kind = f2 at *
      generalize l[k].width = f3 at *
      generalize l[k].id = f4 at *
      generalize l[k].index = f5 at *
      generalize l[k].kids.length = f6 at *
      clear hc hcs hl hkl hcall
      have HG := hidM hgr
      clear hgr
      have z1 : (jk ++ (⟨#[44, 32]⟩ : ByteArray)).size = jk.size + 2 := by rw [ByteArray.size_append]; rfl
      have m1 := add_run jk ⟨#[44, 32]⟩ (by show jk.size + 2 ≤ _; omega)
      have m2 := add_run (jk ++ ⟨#[44, 32]⟩) tk (by rw [z1]; omega)
      have m3 := add_run jk tk (by omega)
      by_cases h0 : 0 < k
      · have h0I : (0 : Int) < (k : Int) := by omega
        have HEq : Hid (jk ++ (⟨#[44, 32]⟩ : ByteArray) ++ tk = joinB ((l.take (k + 1)).map tx)) := by
          show _ = _
          rw [HTK.out, joinB_snoc _ _ (HNE.out h0), ← HK.out.1]
        have hns : (jk ++ (⟨#[44, 32]⟩ : ByteArray) ++ tk).size ≤ 1000000 := by rw [HEq.out, HTK.out]; exact hnew
        have HNs := hidM hns
        clear hns hnew z1 HK HTK htk
        go_wp2_with (go_at_call 31; refine Hid.out ?_)
        unfold Hid
        refine Calls.mono (HC.out _ (HG.out.alloc _)) ?_
        rintro e w2 ⟨rfl, hg⟩
        have HG2 := hidM ((HG.out.alloc _).trans hg (fun _ _ h => h))
        clear hg g0 g1 g2 g3 g4 g5 g6
        go_wp2_with fail
        go_roundw
        case rel => exact ⟨k + 1, _, by omega, HNs.out, by simp, rfl, HEq.out, HG2.out⟩
        case measure => simp [intOf]; omega
      · have h0I : ¬ (0 : Int) < (k : Int) := by omega
        have HEq : Hid (jk ++ tk = joinB ((l.take (k + 1)).map tx)) := by
          show _ = _
          obtain rfl : k = 0 := by omega
          have e : jk = ⟨#[]⟩ := HK.out.1
          rw [HTK.out, e]
          simp only [List.take_zero, List.map_nil, List.nil_append]
          rw [joinB_one]
          apply ByteArray.ext
          simp
        have HNs : Hid ((jk ++ tk).size ≤ 1000000) := by show _ ≤ _; rw [HEq.out, HTK.out]; exact hnew
        clear hnew z1 HK HTK htk
        go_wp2_with (go_at_call 31; refine Hid.out ?_)
        unfold Hid
        refine Calls.mono (HC.out _ (HG.out.alloc _)) ?_
        rintro e w2 ⟨rfl, hg⟩
        have HG2 := hidM ((HG.out.alloc _).trans hg (fun _ _ h => h))
        clear hg g0 g1 g2 g3 g4 g5 g6
        go_wp2_with fail
        go_roundw
        case rel => exact ⟨k + 1, _, by omega, HNs.out, by simp, rfl, HEq.out, HG2.out⟩
        case measure => simp [intOf]; omega
    · have hkL : k = L := by omega
      subst hkL
      have HE : Hid (jk = joinB (l.map tx)) := by
        have := HK.out.1
        rw [HL.out, List.take_length] at this
        exact this
      have HG := hidM HK.out.2
      clear HK HR
      go_wp2_with fail
      go_ret
      exact ⟨by rw [← HE.out]; rfl, HG.out⟩
/-- the document's text of a type -/
theorem typeTextR_any {f : FT} {ao : Option Addr} {ca : Nat} {w : World} (ok : tableB f = true) (ts : List ByteArray) (hl : ts.length = f.kids.length) (hs : (ts.map fun t => t.size + 2).sum ≤ 1000000)
    (h : AnsV 26 #[.slice ao f.kids.length ca] (.string (joinB ts)) w) :
    AnsV 52 #[.agg #[.int .i64 f.kind, .int .i64 f.width, .int .i64 f.id, .int .i64 f.index, .slice ao f.kids.length ca]] (.string (tyB f ts)) w := by
  have hj : (joinB ts).size ≤ 1000000000 := by have := joinB_size ts; omega
  obtain ⟨h1, h2, h3, h4, h5, h6⟩ := tableB_nums ok
  obtain ⟨k, hk⟩ : ∃ k : Nat, f.kind = (k : Int) := ⟨f.kind.toNat, by omega⟩
  have hk' : f.kind.toNat = k := by omega
  by_cases c1 : k < 14
  · have e : tyB f ts = wdB k := by unfold tyB; rw [if_pos (by omega), hk']
    rw [e, hk]
    exact typeTextR_plain (by omega) (by omega)
  have e : tyB f ts = brackB k (numsB f ++ ts) := by unfold tyB; rw [if_neg (by omega), hk']
  have hle : k = 15 ∨ k = 16 ∨ k = 18 ∨ k = 19 ∨ k = 20 → ts ≠ [] := fun hc hte => by
    obtain ⟨k', e1, -, -, -, e2, -⟩ := table_of ok
    have : k' = k := by omega
    subst this
    rw [hte, List.length_nil] at hl
    rw [← hl] at e2
    rcases hc with rfl | rfl | rfl | rfl | rfl <;> simp [leastK] at e2
  rw [e]
  have hc : k = 14 ∨ k = 15 ∨ k = 16 ∨ k = 17 ∨ k = 18 ∨ k = 19 ∨ k = 20 := by omega
  have en : ¬ (k = 14 ∨ k = 16 ∨ k = 19) → numsB f = [] := fun hn => by unfold numsB; rw [if_neg (by omega), if_neg (by omega)]
  rcases hc with rfl | rfl | rfl | rfl | rfl | rfl | rfl
  · obtain ⟨n, hn⟩ : ∃ n : Nat, f.width = (n : Int) := ⟨f.width.toNat, by have := h3 (by omega); omega⟩
    have hn1 : n < 100 := by have := h3 (by omega); omega
    have e2 : numsB f = [decB n] := by unfold numsB; rw [if_pos (by omega), hn]; rfl
    have e3 : ts = [] := List.eq_nil_of_length_eq_zero (by rw [hl]; exact h6 (by omega))
    rw [e2, e3, hk, hn]
    have := typeTextR_14 (ao := ao) (na := f.kids.length) (ca := ca) (w := w) (n := n) hn1 (di := f.id) (xi := f.index)
    have e4 : brackB 14 ([decB n] ++ []) = (⟨#[102, 105, 120, 101, 100, 40]⟩ : ByteArray) ++ decB n ++ (⟨#[41]⟩ : ByteArray) := by
      unfold brackB
      rw [List.append_nil, joinB_one]
      apply ByteArray.ext
      simp [wordK]
    rw [e4]; exact this
  · rw [en (by omega), List.nil_append, hk]
    have e4 : brackB 15 ts = (⟨#[108, 105, 115, 116, 40]⟩ : ByteArray) ++ joinB ts ++ (⟨#[41]⟩ : ByteArray) := by
      unfold brackB
      apply ByteArray.ext
      simp [wordK]
    rw [e4]; exact typeTextR_15 hj h
  · obtain ⟨n, hn⟩ : ∃ n : Nat, f.width = (n : Int) := ⟨f.width.toNat, by have := h3 (by omega); omega⟩
    have hn1 : n < 100 := by have := h3 (by omega); omega
    have e2 : numsB f = [decB n] := by unfold numsB; rw [if_pos (by omega), hn]; rfl
    rw [e2, hk, hn]
    have e4 : brackB 16 ([decB n] ++ ts) = (⟨#[115, 112, 97, 110, 40]⟩ : ByteArray) ++ decB n ++ (⟨#[44, 32]⟩ : ByteArray) ++ joinB ts ++ (⟨#[41]⟩ : ByteArray) := by
      unfold brackB
      rw [List.singleton_append, joinB_cons _ _ (hle (by omega))]
      apply ByteArray.ext
      simp [wordK]
    rw [e4]; exact typeTextR_16 hn1 hj h
  · rw [en (by omega), List.nil_append, hk]
    have e4 : brackB 17 ts = (⟨#[115, 116, 114, 117, 99, 116, 40]⟩ : ByteArray) ++ joinB ts ++ (⟨#[41]⟩ : ByteArray) := by
      unfold brackB
      apply ByteArray.ext
      simp [wordK]
    rw [e4]; exact typeTextR_17 hj h
  · rw [en (by omega), List.nil_append, hk]
    have e4 : brackB 18 ts = (⟨#[99, 104, 111, 105, 99, 101, 40]⟩ : ByteArray) ++ joinB ts ++ (⟨#[41]⟩ : ByteArray) := by
      unfold brackB
      apply ByteArray.ext
      simp [wordK]
    rw [e4]; exact typeTextR_18 hj h
  · obtain ⟨i1, i2, i3, i4⟩ := h4 (by omega)
    obtain ⟨n, hn⟩ : ∃ n : Nat, f.id = (n : Int) := ⟨f.id.toNat, by omega⟩
    obtain ⟨ix, hix⟩ : ∃ ix : Nat, f.index = (ix : Int) := ⟨f.index.toNat, by omega⟩
    have e2 : numsB f = [decB n, wdB ix] := by unfold numsB; rw [if_neg (by omega), if_pos (by omega), hn, hix]; rfl
    rw [e2, hk, hn, hix]
    have e4 : brackB 19 ([decB n, wdB ix] ++ ts) = (⟨#[100, 105, 99, 116, 40]⟩ : ByteArray) ++ decB n ++ (⟨#[44, 32]⟩ : ByteArray) ++ wdB ix ++ (⟨#[44, 32]⟩ : ByteArray) ++ joinB ts ++ (⟨#[41]⟩ : ByteArray) := by
      unfold brackB
      have e5 : [decB n, wdB ix] ++ ts = decB n :: (wdB ix :: ts) := rfl
      rw [e5, joinB_cons _ _ (by simp), joinB_cons _ _ (hle (by omega))]
      apply ByteArray.ext
      simp [wordK]
    rw [e4]; exact typeTextR_19 (by omega) (by omega) (by omega) hj h
  · rw [en (by omega), List.nil_append, hk]
    have e4 : brackB 20 ts = (⟨#[114, 117, 110, 115, 40]⟩ : ByteArray) ++ joinB ts ++ (⟨#[41]⟩ : ByteArray) := by
      unfold brackB
      apply ByteArray.ext
      simp [wordK]
    rw [e4]; exact typeTextR_20 hj h
/-- the document's text of a field -/
theorem fieldTextR_any (S : Nat → Prop) : ∀ (d : Nat) (f : FT) (ao : Option Addr) (ca : Nat) (w : World), (∀ b, S b → b < w.heap.size) → RowAt S w d ao f.kids → okF f → (∀ g ∈ pre d f.kids, okF g) → (pre d f.kids).length ≤ 256 →
    AnsV 31 #[fldV f ao ca] (.string (txF d f)) w
  | d, f, ao, ca, w, hS, hr, ok, hp, hl => by
    have hk : f.kids.map (txF (d - 1)) = txK d f := by
      cases d with
      | zero => have : f.kids = [] := hr; simp [txK, this]
      | succ d => rfl
    have hsum : ((txK d f).map fun t => t.size + 2).sum ≤ 1000000 := by
      cases d with
      | zero => simp [txK]
      | succ d => have := tx_sum hp; show (((f.kids.map (txF d))).map fun t => t.size + 2).sum ≤ _; omega
    have h26 : AnsV 26 #[.slice ao f.kids.length ca] (.string (joinB (txK d f))) w := by
      rw [← hk] at hsum ⊢
      refine fieldsTextR_walk f.kids (txF (d - 1)) S d ao ca w hr hS hsum ?_
      intro i hi ao' ca' hr' hle
      cases d with
      | zero => have : f.kids = [] := hr; rw [this] at hi; simp at hi
      | succ d =>
        have hmem : f.kids[i] ∈ f.kids := List.getElem_mem hi
        have e : pre (d + 1) f.kids = f.kids.flatMap fun f => f :: pre d f.kids := rfl
        have hsub : ∀ g, g = f.kids[i] ∨ g ∈ pre d f.kids[i].kids → g ∈ pre (d + 1) f.kids := fun g hg => by
          rw [e, List.mem_flatMap]
          exact ⟨_, hmem, by simpa using hg⟩
        have hle : ∀ (l : List FT) (g : FT), g ∈ l → (pre d g.kids).length ≤ (l.flatMap fun f => f :: pre d f.kids).length := fun l => by
          induction l with
          | nil => intro g hg; simp at hg
          | cons x l ih =>
            intro g hg
            rw [List.flatMap_cons, List.length_append]
            rcases List.mem_cons.1 hg with rfl | hg
            · simp; omega
            · have := ih g hg; omega
        have := hle f.kids _ hmem
        rw [e] at hl
        exact fieldTextR_any S d f.kids[i] ao' ca' w hS hr' (hp _ (hsub _ (.inl rfl))) (fun g hg => hp g (hsub g (.inr hg))) (by omega)
    have h52 := typeTextR_any ok.2 (txK d f) (by rw [← hk]; simp) hsum h26
    have hts : (tyB f (txK d f)).size ≤ 1000000000 := by have := tyB_size ok.2 (txK d f); omega
    have h31 := fieldTextR_walk f.name f.nul f.kind f.width f.id f.index ao f.kids.length ca (tyB f (txK d f)) w (by have := ok.1; omega) hts h52
    rw [txF_eq]
    exact h31
theorem fieldsTextR_any (S : Nat → Prop) (d : Nat) (l : List FT) (ao : Option Addr) (ca : Nat) (w : World) (hS : ∀ b, S b → b < w.heap.size) (hr : RowAt S w d ao l) (hp : ∀ g ∈ pre d l, okF g) (hl : (pre d l).length ≤ 256) :
    AnsV 26 #[.slice ao l.length ca] (.string (joinB (l.map (txF (d - 1))))) w := by
  have hsum : ((l.map (txF (d - 1))).map fun t => t.size + 2).sum ≤ 1000000 := by
    cases d with
    | zero => have : l = [] := hr; simp [this]
    | succ d => have := tx_sum hp; show (((l.map (txF d))).map fun t => t.size + 2).sum ≤ _; omega
  refine fieldsTextR_walk l (txF (d - 1)) S d ao ca w hr hS hsum ?_
  intro i hi ao' ca' hr' hle
  cases d with
  | zero => have : l = [] := hr; rw [this] at hi; simp at hi
  | succ d =>
    have hmem : l[i] ∈ l := List.getElem_mem hi
    have e : pre (d + 1) l = l.flatMap fun f => f :: pre d f.kids := rfl
    have hsub : ∀ g, g = l[i] ∨ g ∈ pre d l[i].kids → g ∈ pre (d + 1) l := fun g hg => by
      rw [e, List.mem_flatMap]
      exact ⟨_, hmem, by simpa using hg⟩
    have hle : ∀ (l : List FT) (g : FT), g ∈ l → (pre d g.kids).length ≤ (l.flatMap fun f => f :: pre d f.kids).length := fun l => by
      induction l with
      | nil => intro g hg; simp at hg
      | cons x l ih =>
        intro g hg
        rw [List.flatMap_cons, List.length_append]
        rcases List.mem_cons.1 hg with rfl | hg
        · simp; omega
        · have := ih g hg; omega
    have := hle l _ hmem
    rw [e] at hl
    exact fieldTextR_any S d l[i] ao' ca' w hS hr' (hp _ (hsub _ (.inl rfl))) (fun g hg => hp g (hsub g (.inr hg))) (by omega)
end Go.Proofs.YtfepbpibhcfjdaaDoor.Kit
