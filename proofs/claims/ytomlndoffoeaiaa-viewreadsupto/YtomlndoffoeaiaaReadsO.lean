import Derived.Test.YtomlndoffoeaiaaReadsN
namespace Go.Proofs.Ytomlndoffoeaiaa.Kit
open Go.RowKit Go.Deep
set_option linter.unusedVariables false

/-- a list of the room was grown -/
def RowDone (w w' : World) (m off e sz : Nat) (cs : Array Value) (v : Value) (n' : Nat) (xs' : List Value) : Prop :=
  ∃ v', w'.heap[m]? = some (.cells (cs.setIfInBounds off v') 87 (0, 0)) ∧ w'.ownsRow 0 e sz v' n' xs' ∧ Keeps w w' (fun k => k = m ∨ v.ownBlock = some k) ∧ (v'.ownBlock = v.ownBlock ∨ ∀ g, v'.ownBlock = some g → w.heap.size ≤ g)
theorem ownN_ne {w : World} {ty q e sz : Nat} {v : Value} {n : Nat} {xs : List Value} {cs : Array Value} (hty : ty ≠ e) (hp : w.heap[q]? = some (.cells cs ty (0, 0))) (hown : w.ownsRow 0 e sz v n xs) : v.ownBlock ≠ some q := by
  intro h
  rcases hown.2 with ⟨rfl, _⟩ | ⟨g, cap, cur, rfl, _, hgg, _⟩
  · simp [Value.ownBlock] at h
  · simp [Value.ownBlock] at h
    subst h
    rw [hp] at hgg
    simp at hgg
    exact hty hgg.2
theorem ownN_kept {w w' : World} {e sz : Nat} {v : Value} {n : Nat} {xs : List Value} {S : Nat → Prop} (h : w.ownsRow 0 e sz v n xs) (hk : Keeps w w' S) (hg : ∀ g, v.ownBlock = some g → ¬ S g) : w'.ownsRow 0 e sz v n xs := by
  refine ⟨h.1, ?_⟩
  rcases h.2 with hn | ⟨g, cap, cur, rfl, hb', hgg, rest⟩
  · exact .inl hn
  · exact .inr ⟨g, cap, cur, rfl, hb', hk.row hgg (hg g rfl), rest⟩
theorem ownN_form {w : World} {e sz : Nat} {v : Value} {n : Nat} {xs : List Value} (h : w.ownsRow 0 e sz v n xs) : ∃ ao cap, v = .slice ao n cap := by
  rcases h.2 with ⟨rfl, h0⟩ | ⟨g, cap, cur, rfl, _⟩
  · exact ⟨none, 0, by rw [h0]⟩
  · exact ⟨_, _, rfl⟩
theorem RowDone.grown {w W w1 : World} {m off e sz : Nat} {cs : Array Value} {v v' : Value} {n' : Nat} {xs' : List Value} (he : 87 ≠ e) (hk : Keeps w W (fun _ => False)) (hm : w.heap[m]? = some (.cells cs 87 (0, 0))) (hcs : cs[off]? = some v) (hv : ∀ g, v.ownBlock = some g → g ≠ m)
    (hown' : w1.ownsRow 0 e sz v' n' xs') (hgrow : W.grownBy w1 v.ownBlock) (hblk : v'.ownBlock = v.ownBlock ∨ ∀ g, v'.ownBlock = some g → W.heap.size ≤ g) :
    w1.cell? ⟨m, off, none⟩ = some v ∧ w1.frozen? ⟨m, off, none⟩ = false ∧ RowDone w (w1.setCell ⟨m, off, none⟩ v') m off e sz cs v n' xs' := by
  have hp : W.heap[m]? = some (.cells cs 87 (0, 0)) := hk.row hm id
  have hp1 : w1.heap[m]? = some (.cells cs 87 (0, 0)) := by
    rw [hgrow.block m (Array.getElem?_eq_some_iff.1 hp).1 (fun e => hv m e.symm rfl)]; exact hp
  have hne' := ownN_ne he hp1 hown'
  refine ⟨by rw [cell_of_row w1 m off _ _ _ hp1]; exact hcs, frozen_of_row w1 m off _ _ hp1, v', heap_setCell_same w1 m off _ 87 v' hp1, ?_, ?_, ?_⟩
  · refine ⟨hown'.1, ?_⟩
    rcases hown'.2 with hn | ⟨g, cap, cur, rfl, hb', hgg, rest⟩
    · exact .inl hn
    · refine .inr ⟨g, cap, cur, rfl, hb', ?_, rest⟩
      rw [heap_setCell_other w1 ⟨m, off, none⟩ g _ (fun e => hne' (by simp [Value.ownBlock, e]))]
      exact hgg
  · have k := (hk.mono (T := fun k => k = m ∨ v.ownBlock = some k) fun _ _ h => h.elim).trans (Keeps.ofGrown hgrow) fun j _ e => Or.inr e
    exact k.setCell (p := ⟨m, off, none⟩) (fun _ => Or.inl rfl) _
  · rcases hblk with e | e
    · exact .inl e
    · exact .inr fun g h => Nat.le_trans hk.size (e g h)
theorem info93 : (Try.prog.info? 93).map (fun i => (i.zero, i.size, i.bytes)) = some (some (.agg #[.slice none 0 0, .int .i64 0, .pointer none, .slice none 0 0, .int .i64 0, .int .i64 0]), 6, 80) := by kernel_rfl
def Six (W : World) (V R B : Nat) (x0 x1 x2 y0 y1 z : Value) : Prop :=
  W.cell? ⟨V, 0, none⟩ = some x0 ∧ W.cell? ⟨V, 1, none⟩ = some x1 ∧ W.cell? ⟨V, 2, none⟩ = some x2 ∧ W.cell? ⟨R, 0, none⟩ = some y0 ∧ W.cell? ⟨R, 1, none⟩ = some y1 ∧ W.cell? ⟨B, 5, none⟩ = some z
theorem Six.kept {W W' : World} {V R B : Nat} {x0 x1 x2 y0 y1 z : Value} {S : Nat → Prop} (h : Six W V R B x0 x1 x2 y0 y1 z) (k : Keeps W W' S) (hV : ¬ S V) (hR : ¬ S R) (hB : ¬ S B) : Six W' V R B x0 x1 x2 y0 y1 z :=
  ⟨k.cell' h.1 hV, k.cell' h.2.1 hV, k.cell' h.2.2.1 hV, k.cell' h.2.2.2.1 hR, k.cell' h.2.2.2.2.1 hR, k.cell' h.2.2.2.2.2 hB⟩
theorem src_seen (w : World) (x0 x1 x2 y0 y1 z : Value) (hone : ∀ v ∈ [x0, x1, x2, y0, y1, z], v.oneCell' = true) : Src Try.prog 6 78 (.slice (some ⟨w.heap.size, 0, none⟩) 1 1) 1 [x0, x1, x2, y0, y1, z] (w.alloc (.cells #[x0, x1, x2, y0, y1, z] 93)).drew := by
  refine Src.ofSlice _ Try.underlying78 _ _ _ _ rfl ?_ (by simpa using hone)
  intro j v hj
  match j, hj with
  | 0, hj => simp at hj; subst hj; simp [Addr.add]
  | 1, hj => simp at hj; subst hj; simp [Addr.add]
  | 2, hj => simp at hj; subst hj; simp [Addr.add]
  | 3, hj => simp at hj; subst hj; simp [Addr.add]
  | 4, hj => simp at hj; subst hj; simp [Addr.add]
  | 5, hj => simp at hj; subst hj; simp [Addr.add]
theorem RowDone.to {w w1 w' : World} {m off e sz : Nat} {cs : Array Value} {v : Value} {n' : Nat} {xs' : List Value} (h : RowDone w w1 m off e sz cs v n' xs') (k : Keeps w1 w' (fun _ => False)) : RowDone w w' m off e sz cs v n' xs' := by
  obtain ⟨v', h1, h2, h3, h4⟩ := h
  exact ⟨v', k.row h1 id, ownN_kept h2 k fun _ _ => id, h3.trans k fun _ _ e => e.elim, h4⟩

set_option maxRecDepth 100000 in
set_option maxHeartbeats 4000000 in
theorem part_joins (ao : Option Addr) (n cap : Nat) (place : Int) (q : Option Nat) (ao' : Option Addr) (n' cap' : Nat) (place' who : Int) (m : Nat) (o a b : Int) (k1 : Nat) (pl1 pl2 : Int) (P1 P2 : Option Addr → Nat → Prop) (w : World)
    (cs : Array Value) (al : Option Addr) (nl cl : Nat) (hrow : w.heap[m]? = some (.cells cs 87 (0, 0))) (hcs : cs[2]? = some (.slice al nl cl)) (hroom : nl < 40) (xs : List Value) (hown : w.ownsRow 0 93 6 (.slice al nl cl) nl xs)
    (h1 : ∀ w, Calls Try.prog 17 #[viewV ao n cap place q, .int .i64 a, .int .i64 b] w fun e w' => (∃ ao1 cap1, e = .returned (.tuple #[viewV ao1 k1 cap1 pl1 q, .int .i64 0]) ∧ P1 ao1 cap1) ∧ Keeps w w' (fun _ => False))
    (h2 : ∀ w, Calls Try.prog 59 #[refV ao' n' cap' place', .int .i64 a, .int .i64 b] w fun e w' => (∃ ao2 cap2, e = .returned (.tuple #[refV ao2 k1 cap2 pl2, .int .i64 0]) ∧ P2 ao2 cap2) ∧ Keeps w w' (fun _ => False)) :
    Calls Try.prog 40 #[.pointer (some ⟨m, 0, none⟩), seenV ao n cap place q ao' n' cap' place' who, opV 1 o a b] w fun e w' => e = .returned (.bool true) ∧ ∃ ao1 cap1 ao2 cap2, P1 ao1 cap1 ∧ P2 ao2 cap2 ∧ RowDone w w' m 2 93 6 cs (.slice al nl cl) (nl + 1) (xs ++ [.slice ao1 k1 cap1, .int .i64 pl1, .pointer (q.map fun b => ⟨b, 0, none⟩), .slice ao2 k1 cap2, .int .i64 pl2, .int .i64 who]) := by
  have H1 : Hid (∀ w, Calls Try.prog 17 #[viewV ao n cap place q, .int .i64 a, .int .i64 b] w fun e w' => (∃ ao1 cap1, e = .returned (.tuple #[viewV ao1 k1 cap1 pl1 q, .int .i64 0]) ∧ P1 ao1 cap1) ∧ Keeps w w' (fun _ => False)) := h1
  have H2 : Hid (∀ w, Calls Try.prog 59 #[refV ao' n' cap' place', .int .i64 a, .int .i64 b] w fun e w' => (∃ ao2 cap2, e = .returned (.tuple #[refV ao2 k1 cap2 pl2, .int .i64 0]) ∧ P2 ao2 cap2) ∧ Keeps w w' (fun _ => False)) := h2
  have HM : Hid (w.heap[m]? = some (.cells cs 87 (0, 0)) ∧ cs[2]? = some (.slice al nl cl)) := ⟨hrow, hcs⟩
  have HO : Hid (w.ownsRow 0 93 6 (.slice al nl cl) nl xs) := hown
  clear h1 h2 hrow hcs hown
  unfold seenV opV
  go_enter Try.func40, Try.ntmps40
  go_wp2_with fail
  have B := Boxes.start w #[.slice ao n cap, .int .i64 place, .pointer (q.map fun b => ⟨b, 0, none⟩), .slice ao' n' cap', .int .i64 place', .int .i64 who] #[.int .i64 1, .int .i64 o, .int .i64 a, .int .i64 b]
  go_at_call 17
  refine (H1.out _).mono ?_
  rintro e w1 ⟨⟨ao1, cap1, rfl, q1⟩, K1⟩
  have HP1 : Hid (P1 ao1 cap1) := q1
  unfold viewV
  have HB : Hid (Boxes w w1 #[.slice ao n cap, .int .i64 place, .pointer (q.map fun b => ⟨b, 0, none⟩), .slice ao' n' cap', .int .i64 place', .int .i64 who] #[.int .i64 1, .int .i64 o, .int .i64 a, .int .i64 b] (fun _ => False)) := B.next K1 fun _ e => e.elim
  have P := fun x => (HB.out.next ((Keeps.refl w1 (fun _ => False)).alloc x) fun _ e => e.elim).cells
  have p3 := fun x => (P x).1.2.2.2.1
  have p4 := fun x => (P x).1.2.2.2.2.1
  have o2 := fun x => (P x).2.2.2.1
  have o3 := fun x => (P x).2.2.2.2
  clear B K1 P q1
  go_wp2_with fail
  go_at_call 59
  obtain ⟨W1, hW1⟩ : ∃ W1, W1 = w1.alloc (.cells #[.slice ao1 k1 cap1, .int .i64 pl1, .pointer (q.map fun b => ⟨b, 0, none⟩)] 37) := ⟨_, rfl⟩
  rw [← hW1]
  obtain ⟨V, hV⟩ : ∃ V, V = w1.heap.size := ⟨_, rfl⟩
  have HV : Hid (W1.heap[V]? = some (.cells #[.slice ao1 k1 cap1, .int .i64 pl1, .pointer (q.map fun b => ⟨b, 0, none⟩)] 37 (0, 0))) := by rw [hV, hW1]; exact heap_alloc_new w1 _
  have HB1 : Hid (Boxes w W1 #[.slice ao n cap, .int .i64 place, .pointer (q.map fun b => ⟨b, 0, none⟩), .slice ao' n' cap', .int .i64 place', .int .i64 who] #[.int .i64 1, .int .i64 o, .int .i64 a, .int .i64 b] (fun _ => False)) := by rw [hW1]; exact HB.out.next ((Keeps.refl w1 (fun _ => False)).alloc _) fun _ e => e.elim
  have HVn : Hid (w.heap.size ≤ V) := by rw [hV]; exact HB.out.keep.size
  rw [← hV]
  clear hW1 hV HB p3 p4 o2 o3
  refine (H2.out _).mono ?_
  rintro e w2 ⟨⟨ao2, cap2, rfl, q2⟩, K2⟩
  have HP2 : Hid (P2 ao2 cap2) := q2
  unfold refV
  obtain ⟨W2, hW2⟩ : ∃ W2, W2 = w2.alloc (.cells #[.slice ao2 k1 cap2, .int .i64 pl2] 91) := ⟨_, rfl⟩
  obtain ⟨R, hR⟩ : ∃ R, R = w2.heap.size := ⟨_, rfl⟩
  have KA : Keeps W1 W2 (fun _ => False) := by rw [hW2]; exact K2.alloc _
  have HB2 : Hid (Boxes w W2 #[.slice ao n cap, .int .i64 place, .pointer (q.map fun b => ⟨b, 0, none⟩), .slice ao' n' cap', .int .i64 place', .int .i64 who] #[.int .i64 1, .int .i64 o, .int .i64 a, .int .i64 b] (fun _ => False)) := HB1.out.next KA fun _ e => e.elim
  have HR2 : Hid (W2.heap[R]? = some (.cells #[.slice ao2 k1 cap2, .int .i64 pl2] 91 (0, 0))) := by rw [hR, hW2]; exact heap_alloc_new w2 _
  have HRn : Hid (w.heap.size ≤ R) := by rw [hR]; exact Nat.le_trans HB1.out.keep.size K2.size
  have HV2 : Hid (W2.heap[V]? = some (.cells #[.slice ao1 k1 cap1, .int .i64 pl1, .pointer (q.map fun b => ⟨b, 0, none⟩)] 37 (0, 0))) := KA.row HV.out id
  have hl : W2.cell? ⟨m, 2, none⟩ = some (.slice al nl cl) := by rw [cell_of_row _ m 2 _ _ _ (HB2.out.keep.row HM.out.1 id)]; exact HM.out.2
  obtain ⟨v0, v1, v2⟩ := boxCells3 HV2.out
  obtain ⟨r0, r1⟩ := boxCells2 HR2.out
  have hl' := hl
  rw [hW2] at hl'
  clear K2 KA HB1 HV q2
  have hnl : (nl : Int) < 40 := by omega
  go_wp2_with fail
  rw [← hW2, ← hR]
  clear hW2 hR hl' hnl
  obtain ⟨⟨-, -, -, -, -, p5⟩, -⟩ := HB2.out.cells
  have HS : Hid (Six W2 V R w.heap.size (.slice ao1 k1 cap1) (.int .i64 pl1) (.pointer (q.map fun b => ⟨b, 0, none⟩)) (.slice ao2 k1 cap2) (.int .i64 pl2) (.int .i64 who)) := ⟨v0, v1, v2, r0, r1, p5⟩
  have HSA : Hid (∀ o, Six (W2.alloc o).drew V R w.heap.size (.slice ao1 k1 cap1) (.int .i64 pl1) (.pointer (q.map fun b => ⟨b, 0, none⟩)) (.slice ao2 k1 cap2) (.int .i64 pl2) (.int .i64 who)) := fun o => HS.out.kept (Keeps.none_alloc_drew' W2 o) id id id
  have HOl : Hid (∀ g, (Value.slice al nl cl).ownBlock = some g → g < w.heap.size) := fun g e => (HO.out.lt g e).2
  have hml : m < w.heap.size := (Array.getElem?_eq_some_iff.1 HM.out.1).1
  have HVn' := HVn.out
  have HRn' := HRn.out
  have a3 : ∀ o, (W2.alloc o).cell? ⟨m, 2, none⟩ = some (.slice al nl cl) := fun o => ((Keeps.refl W2 (fun _ => False)).alloc o).cell' hl id
  clear v0 v1 v2 r0 r1 p5
  refine wp_region_held_drew (S := fun w' => Six w' V R w.heap.size (.slice ao1 k1 cap1) (.int .i64 pl1) (.pointer (q.map fun b => ⟨b, 0, none⟩)) (.slice ao2 k1 cap2) (.int .i64 pl2) (.int .i64 who)) (by kernel_rfl) HS.out (fun hHeld => ?_)
  refine wpAnyH_take (i := 0) (v := ?v0) rfl (by kernel_rfl) (by kernel_rfl) (by kernel_rfl) (fun _ _ _ h => h) (Or.inl ⟨by rfl, ?y0⟩) (by assumption) ?r0
  case y0 => (intro w hSw; obtain ⟨s0, s1, s2, s3, s4, s5⟩ := hSw; go_simp; (try with_reducible rfl))
  (try simp only [Act.put]); (try simp only [List.setIfInBounds_toArray]); (try simp only [List.set_cons_succ]); (try simp only [List.set_cons_zero])
  refine wpAnyH_take (i := 1) (v := ?v1) rfl (by kernel_rfl) (by kernel_rfl) (by kernel_rfl) (fun _ _ _ h => h) (Or.inl ⟨by rfl, ?y1⟩) (by assumption) ?r1
  case y1 => (intro w hSw; obtain ⟨s0, s1, s2, s3, s4, s5⟩ := hSw; go_simp; (try with_reducible rfl))
  (try simp only [Act.put]); (try simp only [List.setIfInBounds_toArray]); (try simp only [List.set_cons_succ]); (try simp only [List.set_cons_zero])
  refine wpAnyH_take (i := 2) (v := ?v2) rfl (by kernel_rfl) (by kernel_rfl) (by kernel_rfl) (fun _ _ _ h => h) (Or.inl ⟨by rfl, ?y2⟩) (by assumption) ?r2
  case y2 => (intro w hSw; obtain ⟨s0, s1, s2, s3, s4, s5⟩ := hSw; go_simp; (try with_reducible rfl))
  (try simp only [Act.put]); (try simp only [List.setIfInBounds_toArray]); (try simp only [List.set_cons_succ]); (try simp only [List.set_cons_zero])
  refine wpAnyH_take (i := 3) (v := ?v3) rfl (by kernel_rfl) (by kernel_rfl) (by kernel_rfl) (fun _ _ _ h => h) (Or.inl ⟨by rfl, ?y3⟩) (by assumption) ?r3
  case y3 => (intro w hSw; obtain ⟨s0, s1, s2, s3, s4, s5⟩ := hSw; go_simp; (try with_reducible rfl))
  (try simp only [Act.put]); (try simp only [List.setIfInBounds_toArray]); (try simp only [List.set_cons_succ]); (try simp only [List.set_cons_zero])
  refine wpAnyH_take (i := 5) (v := ?v5) rfl (by kernel_rfl) (by kernel_rfl) (by kernel_rfl) (fun _ _ _ h => h) (Or.inl ⟨by rfl, ?y5⟩) (by assumption) ?r5
  case y5 => (intro w hSw; obtain ⟨s0, s1, s2, s3, s4, s5⟩ := hSw; go_simp; (try with_reducible rfl))
  (try simp only [Act.put]); (try simp only [List.setIfInBounds_toArray]); (try simp only [List.set_cons_succ]); (try simp only [List.set_cons_zero])
  refine wpAnyH_take (i := 6) (v := ?v6) rfl (by kernel_rfl) (by kernel_rfl) (by kernel_rfl) (fun _ _ _ h => h) (Or.inl ⟨by rfl, ?y6⟩) (by assumption) ?r6
  case y6 => (intro w hSw; obtain ⟨s0, s1, s2, s3, s4, s5⟩ := hSw; go_simp; (try with_reducible rfl))
  (try simp only [Act.put]); (try simp only [List.setIfInBounds_toArray]); (try simp only [List.set_cons_succ]); (try simp only [List.set_cons_zero])
  refine wpAnyH_take (i := 7) (v := ?v7) rfl (by kernel_rfl) (by kernel_rfl) (by kernel_rfl) (fun _ _ _ h => h) (Or.inl ⟨by rfl, ?y7⟩) (by assumption) ?r7
  case y7 => (intro w hSw; obtain ⟨s0, s1, s2, s3, s4, s5⟩ := hSw; go_simp; (try with_reducible rfl))
  (try simp only [Act.put]); (try simp only [List.setIfInBounds_toArray]); (try simp only [List.set_cons_succ]); (try simp only [List.set_cons_zero])
  refine wpAnyH_take (i := 8) (v := ?v8) rfl (by kernel_rfl) (by kernel_rfl) (by kernel_rfl) (fun _ _ _ h => h) (Or.inl ⟨by rfl, ?y8⟩) (by assumption) ?r8
  case y8 => (intro w hSw; obtain ⟨s0, s1, s2, s3, s4, s5⟩ := hSw; go_simp; (try with_reducible rfl))
  (try simp only [Act.put]); (try simp only [List.setIfInBounds_toArray]); (try simp only [List.set_cons_succ]); (try simp only [List.set_cons_zero])
  refine wpAnyH_take (i := 9) (v := ?v9) rfl (by kernel_rfl) (by kernel_rfl) (by kernel_rfl) (fun _ _ _ h => h) (Or.inl ⟨by rfl, ?y9⟩) (by assumption) ?r9
  case y9 => (intro w hSw; obtain ⟨s0, s1, s2, s3, s4, s5⟩ := hSw; go_simp; (try with_reducible rfl))
  (try simp only [Act.put]); (try simp only [List.setIfInBounds_toArray]); (try simp only [List.set_cons_succ]); (try simp only [List.set_cons_zero])
  refine wpAnyH_ready (rs := [4, 10]) (by kernel_rfl) (by simp) ?_
  refine AllReadyH.cons (o := { dst := some 48, op := Op.load 78 (Operand.tmp 47), type := 78, pos := "law.go:226", after := #[{ on := 3, ground := Ground.data }], guard := none }) rfl (fun K hK => ?_) ?_
  go_simp
  refine hK.out _ _ hHeld (fun hHeld => ?_)
  clear hK K
  (try simp only [Act.put]); (try simp only [List.setIfInBounds_toArray]); (try simp only [List.set_cons_succ]); (try simp only [List.set_cons_zero])
  refine wpAnyH_ready (rs := [10]) (by kernel_rfl) (by simp) ?_
  refine AllReadyH.cons (o := { dst := some 54, op := Op.buildSlice 78 1 #[(0, Operand.tmp 53)], type := 78, pos := "law.go:226", after := #[{ on := 9, ground := Ground.data }], guard := none }) rfl (fun K hK => ?_) AllReadyH.nil
  go_simp
  refine hK.out _ _ (HSA.out _) (fun hHeld => ?_)
  clear hK K
  (try simp only [Act.put]); (try simp only [List.setIfInBounds_toArray]); (try simp only [List.set_cons_succ]); (try simp only [List.set_cons_zero])
  rotate_left
  refine AllReadyH.cons (o := { dst := some 54, op := Op.buildSlice 78 1 #[(0, Operand.tmp 53)], type := 78, pos := "law.go:226", after := #[{ on := 9, ground := Ground.data }], guard := none }) rfl (fun K hK => ?_) AllReadyH.nil
  go_simp
  refine hK.out _ _ (HSA.out _) (fun hHeld => ?_)
  clear hK K
  (try simp only [Act.put]); (try simp only [List.setIfInBounds_toArray]); (try simp only [List.set_cons_succ]); (try simp only [List.set_cons_zero])
  refine wpAnyH_ready (rs := [4]) (by kernel_rfl) (by simp) ?_
  refine AllReadyH.cons (o := { dst := some 48, op := Op.load 78 (Operand.tmp 47), type := 78, pos := "law.go:226", after := #[{ on := 3, ground := Ground.data }], guard := none }) rfl (fun K hK => ?_) AllReadyH.nil
  go_simp
  refine hK.out _ _ hHeld (fun hHeld => ?_)
  clear hK K
  (try simp only [Act.put]); (try simp only [List.setIfInBounds_toArray]); (try simp only [List.set_cons_succ]); (try simp only [List.set_cons_zero])
  · refine wpAnyH_ready (rs := [11]) (by kernel_rfl) (by simp) ?_
    refine AllReadyH.cons (o := { dst := some 55, op := Op.call { callee := Callee.builtin Builtin.append, args := #[Operand.tmp 48, Operand.tmp 54], argTypes := #[78, 78] }, type := 78, pos := "law.go:226", after := #[{ on := 4, ground := Ground.data }, { on := 10, ground := Ground.data }], guard := none }) rfl (fun K hK => ?_) AllReadyH.nil
    refine step_append_anyN _ rfl (.tmp 48) (.tmp 54) 78 78 rfl 93 (.agg #[.slice none 0 0, .int .i64 0, .pointer none, .slice none 0 0, .int .i64 0, .int .i64 0]) 6 80 Try.underlying78 info93 rfl _ _ _ rfl (ownN_kept HO.out (HB2.out.keep.trans (Keeps.none_alloc_drew' W2 _) fun _ _ e => e) fun _ _ => id) _ _ _ rfl (src_seen W2 _ _ _ _ _ _ (by simp [Value.oneCell'])) (by omega) (by omega) ?_
    intro v' w3 hown' hgrow hblk
    obtain ⟨ao3, cap3, rfl⟩ := ownN_form hown'
    obtain ⟨c1, f1, D⟩ := RowDone.grown (off := 2) (by decide) (HB2.out.keep.trans (Keeps.none_alloc_drew' W2 _) fun _ _ e => e) HM.out.1 HM.out.2 (fun g e e2 => ownN_ne (by decide) HM.out.1 HO.out (e2 ▸ e)) hown' hgrow hblk
    have HD : Hid (RowDone w _ m 2 93 6 cs (.slice al nl cl) (nl + 1) (xs ++ [.slice ao1 k1 cap1, .int .i64 pl1, .pointer (q.map fun b => ⟨b, 0, none⟩), .slice ao2 k1 cap2, .int .i64 pl2, .int .i64 who])) := D
    have e1 : Six w3 V R w.heap.size (.slice ao1 k1 cap1) (.int .i64 pl1) (.pointer (q.map fun b => ⟨b, 0, none⟩)) (.slice ao2 k1 cap2) (.int .i64 pl2) (.int .i64 who) := (HSA.out _).kept (Keeps.ofGrown hgrow) (fun e => by have := HOl.out _ e; omega) (fun e => by have := HOl.out _ e; omega) (fun e => by have := HOl.out _ e; omega)
    have E3 : ∀ u, Six (w3.setCell ⟨m, 2, none⟩ u) V R w.heap.size (.slice ao1 k1 cap1) (.int .i64 pl1) (.pointer (q.map fun b => ⟨b, 0, none⟩)) (.slice ao2 k1 cap2) (.int .i64 pl2) (.int .i64 who) := fun u => e1.kept (S := fun k => k = m) ((Keeps.refl w3 (fun k => k = m)).setCell (p := ⟨m, 2, none⟩) (fun _ => rfl) u) (by omega) (by omega) (by omega)
    have HE3 : Hid (∀ u, Six (w3.setCell ⟨m, 2, none⟩ u) V R w.heap.size (.slice ao1 k1 cap1) (.int .i64 pl1) (.pointer (q.map fun b => ⟨b, 0, none⟩)) (.slice ao2 k1 cap2) (.int .i64 pl2) (.int .i64 who)) := E3
    clear D hown' hgrow hblk E3
    refine hK.out _ _ e1 (fun hHeld => ?_)
    clear hK K
    (try simp only [Act.put]); (try simp only [List.setIfInBounds_toArray]); (try simp only [List.set_cons_succ]); (try simp only [List.set_cons_zero])
    refine wpAnyH_take (i := 12) (v := ?v12a) rfl (by kernel_rfl) (by kernel_rfl) (by kernel_rfl) (fun _ _ _ h => h) (Or.inl ⟨by rfl, ?y12a⟩) (by assumption) ?r12a
    case y12a => (intro w hSw; obtain ⟨s0, s1, s2, s3, s4, s5⟩ := hSw; go_simp; (try with_reducible rfl))
    (try simp only [Act.put]); (try simp only [List.setIfInBounds_toArray]); (try simp only [List.set_cons_succ]); (try simp only [List.set_cons_zero])
    refine wpAnyH_take (i := 13) (v := ?v13a) rfl (by kernel_rfl) (by kernel_rfl) (by kernel_rfl) (fun _ _ _ h => h) (Or.inl ⟨by rfl, ?y13a⟩) (by assumption) ?r13a
    case y13a => (intro w hSw; obtain ⟨s0, s1, s2, s3, s4, s5⟩ := hSw; go_simp; (try with_reducible rfl))
    (try simp only [Act.put]); (try simp only [List.setIfInBounds_toArray]); (try simp only [List.set_cons_succ]); (try simp only [List.set_cons_zero])
    refine wpAnyH_ready (rs := [14]) (by kernel_rfl) (by simp) ?_
    refine AllReadyH.cons (o := { dst := none, op := Op.store 78 (Operand.tmp 57) (Operand.tmp 55), type := 0, pos := "law.go:226", after := #[{ on := 13, ground := Ground.data }, { on := 11, ground := Ground.data }, { on := 11, ground := Ground.chain }, { on := 0, ground := Ground.phase }, { on := 1, ground := Ground.phase }, { on := 2, ground := Ground.phase }, { on := 3, ground := Ground.phase }, { on := 4, ground := Ground.phase }, { on := 5, ground := Ground.phase }, { on := 6, ground := Ground.phase }, { on := 7, ground := Ground.phase }, { on := 8, ground := Ground.phase }, { on := 9, ground := Ground.phase }, { on := 10, ground := Ground.phase }, { on := 11, ground := Ground.phase }], guard := none }) rfl (fun K hK => ?_) AllReadyH.nil
    go_simp
    refine hK.out _ _ (HE3.out _) (fun hHeld => ?_)
    clear hK K
    (try simp only [Act.put]); (try simp only [List.setIfInBounds_toArray]); (try simp only [List.set_cons_succ]); (try simp only [List.set_cons_zero])
    refine wpAnyH_done (by kernel_rfl) ?_ _
    go_wp2_with fail
    have HS3 := HE3.out (.slice ao3 (nl + 1) cap3)
    have HD3 := HD.out
    generalize w3.setCell ⟨m, 2, none⟩ (.slice ao3 (nl + 1) cap3) = W3 at HS3 HD3 ⊢
    clear HE3 HD hHeld HSA HS a3 e1 c1 f1 hl
    have HD3 : Hid (RowDone w W3 m 2 93 6 cs (.slice al nl cl) (nl + 1) (xs ++ [.slice ao1 k1 cap1, .int .i64 pl1, .pointer (q.map fun b => ⟨b, 0, none⟩), .slice ao2 k1 cap2, .int .i64 pl2, .int .i64 who])) := HD3
    obtain ⟨s0, s1, s2, s3, s4, s5⟩ := HS3
    have r2 : ∀ x, (W3.alloc x).cell? ⟨R, 0, none⟩ = some (.slice ao2 k1 cap2) := fun x => ((Keeps.refl W3 (fun _ => False)).alloc x).cell' s3 id
    go_region_with ((go_at_call 16; refine (vlen_exact ao1 k1 cap1 pl1 q _).mono ?_; rintro e w9 ⟨rfl, rfl⟩))
    all_goals (go_wp2; go_ret; refine ⟨by go_simp, ao1, cap1, ao2, cap2, HP1.out, HP2.out, HD3.out.to ?_⟩; first | exact (Keeps.refl _ _).alloc _ | exact (Keeps.refl _ _).drew.alloc _ | exact ((Keeps.refl _ _).alloc _).drew)
  · refine wpAnyH_ready (rs := [11]) (by kernel_rfl) (by simp) ?_
    refine AllReadyH.cons (o := { dst := some 55, op := Op.call { callee := Callee.builtin Builtin.append, args := #[Operand.tmp 48, Operand.tmp 54], argTypes := #[78, 78] }, type := 78, pos := "law.go:226", after := #[{ on := 4, ground := Ground.data }, { on := 10, ground := Ground.data }], guard := none }) rfl (fun K hK => ?_) AllReadyH.nil
    refine step_append_anyN _ rfl (.tmp 48) (.tmp 54) 78 78 rfl 93 (.agg #[.slice none 0 0, .int .i64 0, .pointer none, .slice none 0 0, .int .i64 0, .int .i64 0]) 6 80 Try.underlying78 info93 rfl _ _ _ rfl (ownN_kept HO.out (HB2.out.keep.trans (Keeps.none_alloc_drew' W2 _) fun _ _ e => e) fun _ _ => id) _ _ _ rfl (src_seen W2 _ _ _ _ _ _ (by simp [Value.oneCell'])) (by omega) (by omega) ?_
    intro v' w3 hown' hgrow hblk
    obtain ⟨ao3, cap3, rfl⟩ := ownN_form hown'
    obtain ⟨c1, f1, D⟩ := RowDone.grown (off := 2) (by decide) (HB2.out.keep.trans (Keeps.none_alloc_drew' W2 _) fun _ _ e => e) HM.out.1 HM.out.2 (fun g e e2 => ownN_ne (by decide) HM.out.1 HO.out (e2 ▸ e)) hown' hgrow hblk
    have HD : Hid (RowDone w _ m 2 93 6 cs (.slice al nl cl) (nl + 1) (xs ++ [.slice ao1 k1 cap1, .int .i64 pl1, .pointer (q.map fun b => ⟨b, 0, none⟩), .slice ao2 k1 cap2, .int .i64 pl2, .int .i64 who])) := D
    have e1 : Six w3 V R w.heap.size (.slice ao1 k1 cap1) (.int .i64 pl1) (.pointer (q.map fun b => ⟨b, 0, none⟩)) (.slice ao2 k1 cap2) (.int .i64 pl2) (.int .i64 who) := (HSA.out _).kept (Keeps.ofGrown hgrow) (fun e => by have := HOl.out _ e; omega) (fun e => by have := HOl.out _ e; omega) (fun e => by have := HOl.out _ e; omega)
    have E3 : ∀ u, Six (w3.setCell ⟨m, 2, none⟩ u) V R w.heap.size (.slice ao1 k1 cap1) (.int .i64 pl1) (.pointer (q.map fun b => ⟨b, 0, none⟩)) (.slice ao2 k1 cap2) (.int .i64 pl2) (.int .i64 who) := fun u => e1.kept (S := fun k => k = m) ((Keeps.refl w3 (fun k => k = m)).setCell (p := ⟨m, 2, none⟩) (fun _ => rfl) u) (by omega) (by omega) (by omega)
    have HE3 : Hid (∀ u, Six (w3.setCell ⟨m, 2, none⟩ u) V R w.heap.size (.slice ao1 k1 cap1) (.int .i64 pl1) (.pointer (q.map fun b => ⟨b, 0, none⟩)) (.slice ao2 k1 cap2) (.int .i64 pl2) (.int .i64 who)) := E3
    clear D hown' hgrow hblk E3
    refine hK.out _ _ e1 (fun hHeld => ?_)
    clear hK K
    (try simp only [Act.put]); (try simp only [List.setIfInBounds_toArray]); (try simp only [List.set_cons_succ]); (try simp only [List.set_cons_zero])
    refine wpAnyH_take (i := 12) (v := ?v12b) rfl (by kernel_rfl) (by kernel_rfl) (by kernel_rfl) (fun _ _ _ h => h) (Or.inl ⟨by rfl, ?y12b⟩) (by assumption) ?r12b
    case y12b => (intro w hSw; obtain ⟨s0, s1, s2, s3, s4, s5⟩ := hSw; go_simp; (try with_reducible rfl))
    (try simp only [Act.put]); (try simp only [List.setIfInBounds_toArray]); (try simp only [List.set_cons_succ]); (try simp only [List.set_cons_zero])
    refine wpAnyH_take (i := 13) (v := ?v13b) rfl (by kernel_rfl) (by kernel_rfl) (by kernel_rfl) (fun _ _ _ h => h) (Or.inl ⟨by rfl, ?y13b⟩) (by assumption) ?r13b
    case y13b => (intro w hSw; obtain ⟨s0, s1, s2, s3, s4, s5⟩ := hSw; go_simp; (try with_reducible rfl))
    (try simp only [Act.put]); (try simp only [List.setIfInBounds_toArray]); (try simp only [List.set_cons_succ]); (try simp only [List.set_cons_zero])
    refine wpAnyH_ready (rs := [14]) (by kernel_rfl) (by simp) ?_
    refine AllReadyH.cons (o := { dst := none, op := Op.store 78 (Operand.tmp 57) (Operand.tmp 55), type := 0, pos := "law.go:226", after := #[{ on := 13, ground := Ground.data }, { on := 11, ground := Ground.data }, { on := 11, ground := Ground.chain }, { on := 0, ground := Ground.phase }, { on := 1, ground := Ground.phase }, { on := 2, ground := Ground.phase }, { on := 3, ground := Ground.phase }, { on := 4, ground := Ground.phase }, { on := 5, ground := Ground.phase }, { on := 6, ground := Ground.phase }, { on := 7, ground := Ground.phase }, { on := 8, ground := Ground.phase }, { on := 9, ground := Ground.phase }, { on := 10, ground := Ground.phase }, { on := 11, ground := Ground.phase }], guard := none }) rfl (fun K hK => ?_) AllReadyH.nil
    go_simp
    refine hK.out _ _ (HE3.out _) (fun hHeld => ?_)
    clear hK K
    (try simp only [Act.put]); (try simp only [List.setIfInBounds_toArray]); (try simp only [List.set_cons_succ]); (try simp only [List.set_cons_zero])
    refine wpAnyH_done (by kernel_rfl) ?_ _
    go_wp2_with fail
    have HS3 := HE3.out (.slice ao3 (nl + 1) cap3)
    have HD3 := HD.out
    generalize w3.setCell ⟨m, 2, none⟩ (.slice ao3 (nl + 1) cap3) = W3 at HS3 HD3 ⊢
    clear HE3 HD hHeld HSA HS a3 e1 c1 f1 hl
    have HD3 : Hid (RowDone w W3 m 2 93 6 cs (.slice al nl cl) (nl + 1) (xs ++ [.slice ao1 k1 cap1, .int .i64 pl1, .pointer (q.map fun b => ⟨b, 0, none⟩), .slice ao2 k1 cap2, .int .i64 pl2, .int .i64 who])) := HD3
    obtain ⟨s0, s1, s2, s3, s4, s5⟩ := HS3
    have r2 : ∀ x, (W3.alloc x).cell? ⟨R, 0, none⟩ = some (.slice ao2 k1 cap2) := fun x => ((Keeps.refl W3 (fun _ => False)).alloc x).cell' s3 id
    go_region_with ((go_at_call 16; refine (vlen_exact ao1 k1 cap1 pl1 q _).mono ?_; rintro e w9 ⟨rfl, rfl⟩))
    all_goals (go_wp2; go_ret; refine ⟨by go_simp, ao1, cap1, ao2, cap2, HP1.out, HP2.out, HD3.out.to ?_⟩; first | exact (Keeps.refl _ _).alloc _ | exact (Keeps.refl _ _).drew.alloc _ | exact ((Keeps.refl _ _).alloc _).drew)
end Go.Proofs.Ytomlndoffoeaiaa.Kit
