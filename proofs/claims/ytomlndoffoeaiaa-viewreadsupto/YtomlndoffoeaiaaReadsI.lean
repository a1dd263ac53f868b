import Derived.Test.YtomlndoffoeaiaaReadsH
namespace Go.Proofs.Ytomlndoffoeaiaa.Kit
open Go.RowKit Go.Deep
set_option linter.unusedVariables false

theorem marked_zero (ao : Option Addr) (c : Nat) (m : Int) (w : World) : Calls Try.prog 49 #[.slice ao 0 c, .int .i64 m] w fun e w' => e = .returned (.bool true) ∧ ∃ q, w' = w.drewN q := by
  go_enter Try.func49, Try.ntmps49
  go_wp2
  refine wp_loop_rounds 1 ?_
  rw [rounds_succ]
  go_wp2
  go_ret
  exact ⟨rfl, 0, rfl⟩

set_option maxHeartbeats 1000000 in
theorem marked_some (b off n c : Nat) (m : Int) (w : World) (hn : n ≤ 4611686018427387903) (ha : ∀ k, k < n → w.cell? ⟨b, off + k * 2, none⟩ = some (.int .i64 m) ∧ w.cell? ⟨b, off + k * 2 + 1, none⟩ = some (.int .i64 m)) :
    Calls Try.prog 49 #[.slice (some ⟨b, off, none⟩) n c, .int .i64 m] w fun e w' => e = .returned (.bool true) ∧ ∃ q, w' = w.drewN q := by
  go_enter Try.func49, Try.ntmps49
  go_wp2
  go_loopw [5] (fun i wr => ∃ k : Nat, k ≤ n ∧ i = .int .i64 k ∧ ∃ q, wr = w.drewN q) (fun i _ => n - (intOf i).toNat)
  case atStart => exact ⟨0, Nat.zero_le _, rfl, 0, rfl⟩
  case round =>
    obtain ⟨k, hk, rfl, q, rfl⟩ := hrel
    by_cases hlt : k < n
    · obtain ⟨h1, h2⟩ := ha k hlt
      have hne : (m != m) = false := by simp
      clear ha
      go_wp2
      go_roundw
      case rel => exact ⟨k + 1, by omega, by go_num, q, rfl⟩
      case measure => simp [intOf]; omega
    · clear ha
      go_wp2
      go_ret
      exact ⟨rfl, _, rfl⟩

/-- the room's list of what a watch must have been told, behind a read -/
def ToldDone (w w' : World) (m off : Nat) (cs : Array Value) (v : Value) (rs' : List (Int × Int)) : Prop :=
  ∃ v', w'.heap[m]? = some (.cells (cs.setIfInBounds off v') 87 (0, 0)) ∧ w'.ownsRow 0 50 2 v' rs'.length (readCells rs') ∧ Keeps w w' (fun k => k = m ∨ v.ownBlock = some k) ∧ (v'.ownBlock = v.ownBlock ∨ ∀ g, v'.ownBlock = some g → w.heap.size ≤ g)
def TForm (w W : World) (m off : Nat) (cs : Array Value) (ao : Option Addr) (cap : Nat) (rs : List (Int × Int)) : Prop :=
  Keeps w W (fun _ => False) ∧ W.heap[m]? = some (.cells cs 87 (0, 0)) ∧ W.ownsRow 0 50 2 (.slice ao rs.length cap) rs.length (readCells rs) ∧ cs[off]? = some (.slice ao rs.length cap)
theorem TForm.mk' {w W : World} {m off : Nat} {cs : Array Value} {ao : Option Addr} {cap : Nat} {rs : List (Int × Int)} (hk : Keeps w W (fun _ => False)) (hrow : w.heap[m]? = some (.cells cs 87 (0, 0))) (hcs : cs[off]? = some (.slice ao rs.length cap)) (hown : w.ownsRow 0 50 2 (.slice ao rs.length cap) rs.length (readCells rs)) : TForm w W m off cs ao cap rs := by
  refine ⟨hk, ?_, ?_, hcs⟩
  · rw [hk.block m (Array.getElem?_eq_some_iff.1 hrow).1 id]; exact hrow
  · refine ⟨hown.1, ?_⟩
    rcases hown.2 with hn | ⟨g, cap', cur, e, hb', hgg, rest⟩
    · exact .inl hn
    · refine .inr ⟨g, cap', cur, e, hb', ?_, rest⟩
      rw [hk.block g (Array.getElem?_eq_some_iff.1 hgg).1 id]; exact hgg
theorem TForm.grown {w V W w1 : World} {m off : Nat} {cs : Array Value} {ao : Option Addr} {cap : Nat} {rs : List (Int × Int)} (hf : TForm w V m off cs ao cap rs) (hW : Keeps V W (fun _ => False))
    (news : List (Int × Int)) {v' : Value} {n' : Nat} {xs' : List Value} (hown' : w1.ownsRow 0 50 2 v' n' xs') (hn : n' = (rs ++ news).length) (hx : xs' = readCells (rs ++ news))
    (hgrow : W.grownBy w1 (Value.slice ao rs.length cap).ownBlock) (hblk : v'.ownBlock = (Value.slice ao rs.length cap).ownBlock ∨ ∀ g, v'.ownBlock = some g → W.heap.size ≤ g) :
    w1.cell? ⟨m, off, none⟩ = some (.slice ao rs.length cap) ∧ w1.frozen? ⟨m, off, none⟩ = false ∧ ToldDone w (w1.setCell ⟨m, off, none⟩ v') m off cs (.slice ao rs.length cap) (rs ++ news) := by
  obtain ⟨hk, hh, ho, hcs⟩ := hf
  subst hn hx
  have hh' : W.heap[m]? = some (.cells cs 87 (0, 0)) := by rw [hW.block m (Array.getElem?_eq_some_iff.1 hh).1 id]; exact hh
  have hne := own2_ne (ty := 87) (by decide) hh ho
  have hp1 : w1.heap[m]? = some (.cells cs 87 (0, 0)) := by
    rw [hgrow.block m (Array.getElem?_eq_some_iff.1 hh').1 (fun e => hne e.symm)]; exact hh'
  have hne' := own2_ne (ty := 87) (by decide) hp1 hown'
  refine ⟨by rw [cell_of_row w1 m off _ _ _ hp1]; exact hcs, frozen_of_row w1 m off _ _ hp1, v', heap_setCell_same w1 m off _ 87 v' hp1, ?_, ?_, ?_⟩
  · refine ⟨hown'.1, ?_⟩
    rcases hown'.2 with hn | ⟨g, cap, cur, rfl, hb', hgg, rest⟩
    · exact .inl hn
    · refine .inr ⟨g, cap, cur, rfl, hb', ?_, rest⟩
      rw [heap_setCell_other w1 ⟨m, off, none⟩ g _ (fun e => hne' (by simp [Value.ownBlock, e]))]
      exact hgg
  · have k := ((hk.trans hW fun _ _ h => h).mono (T := fun k => k = m ∨ (Value.slice ao rs.length cap).ownBlock = some k) fun _ _ h => h.elim).trans (Keeps.ofGrown hgrow) fun j _ e => Or.inr e
    exact k.setCell (p := ⟨m, off, none⟩) (fun _ => Or.inl rfl) _
  · rcases hblk with e | e
    · exact .inl e
    · exact .inr fun g h => Nat.le_trans (Nat.le_trans hk.size hW.size) (e g h)

set_option maxRecDepth 100000 in
set_option maxHeartbeats 4000000 in
theorem reads_told1 (cs : Array Value) (x0 x1 x2 x3 : Value) (place at' n : Int) (m : Nat) (w : World) (ao : Option Addr) (cap : Nat) (rs : List (Int × Int))
    (hrow : w.heap[m]? = some (.cells cs 87 (0, 0))) (hcs : cs[7]? = some (.slice ao rs.length cap)) (hown : w.ownsRow 0 50 2 (.slice ao rs.length cap) rs.length (readCells rs)) (hn : 0 < n)
    (hp0 : 0 ≤ place + at') (hp1 : place + at' + n ≤ 9223372036854775807) (hrs : rs.length ≤ 1000000000000) :
    Calls Try.prog 42 #[.pointer (some ⟨m, 0, none⟩), .agg #[x0, x1, x2, x3, .int .i64 place, .int .i64 1], .int .i64 at', .int .i64 n] w fun e w' => e = .returned (.tuple #[]) ∧ ToldDone w w' m 7 cs (.slice ao rs.length cap) (rs ++ [(place + at', place + at' + n)]) := by
  have HF : Hid (w.heap[m]? = some (.cells cs 87 (0, 0)) ∧ cs[7]? = some (.slice ao rs.length cap) ∧ w.ownsRow 0 50 2 (.slice ao rs.length cap) rs.length (readCells rs)) := ⟨hrow, hcs, hown⟩
  have hm : m < w.heap.size := (Array.getElem?_eq_some_iff.1 hrow).1
  have hm0 : w.cell? ⟨m, 7, none⟩ = some (.slice ao rs.length cap) := by rw [cell_of_row w m 7 _ _ _ hrow]; exact hcs
  clear hrow hcs hown
  go_enter Try.func42, Try.ntmps42
  go_wp2
  obtain ⟨W, hW⟩ : ∃ W, W = w.alloc (.cells #[x0, x1, x2, x3, .int .i64 place, .int .i64 1] 93) := ⟨_, rfl⟩
  rw [← hW]
  have HK : Hid (Keeps w W (fun _ => False)) := by rw [hW]; exact (Keeps.refl _ _).alloc _
  have hbx : W.heap[w.heap.size]? = some (.cells #[x0, x1, x2, x3, .int .i64 place, .int .i64 1] 93 (0, 0)) := by rw [hW]; exact heap_alloc_new w _
  have b1 : W.cell? ⟨w.heap.size, 4, none⟩ = some (.int .i64 place) := by rw [cell_of_row _ _ 4 _ _ _ hbx]; rfl
  have b2 : W.cell? ⟨w.heap.size, 5, none⟩ = some (.int .i64 1) := by rw [cell_of_row _ _ 5 _ _ _ hbx]; rfl
  have h0 : W.cell? ⟨m, 7, none⟩ = some (.slice ao rs.length cap) := HK.out.cell' hm0 id
  have a1 : ∀ o, (W.alloc o).cell? ⟨w.heap.size, 4, none⟩ = some (.int .i64 place) := fun o => ((Keeps.refl W (fun _ => False)).alloc o).cell' b1 id
  have a2 : ∀ o, (W.alloc o).cell? ⟨w.heap.size, 5, none⟩ = some (.int .i64 1) := fun o => ((Keeps.refl W (fun _ => False)).alloc o).cell' b2 id
  have a3 : ∀ o, (W.alloc o).cell? ⟨m, 7, none⟩ = some (.slice ao rs.length cap) := fun o => ((Keeps.refl W (fun _ => False)).alloc o).cell' h0 id
  have wa : IntKind.i64.wrap (place + at') = place + at' := by rw [IntKind.wrap_i64]; omega
  have wb : IntKind.i64.wrap (place + at' + n) = place + at' + n := by rw [IntKind.wrap_i64]; omega
  have HT := TForm.mk' HK.out HF.out.1 HF.out.2.1 HF.out.2.2
  have HT : Hid (TForm w W m 7 cs ao cap rs) := HT
  have hqn : m ≠ w.heap.size := by omega
  have HNE : Hid (some w.heap.size ≠ (Value.slice ao rs.length cap).ownBlock) := fun e => by have := (HF.out.2.2.lt _ e.symm).2; omega
  clear hW hbx hm0 HF
  refine wp_region_held_drew (S := fun w' => w'.cell? ⟨w.heap.size, 4, none⟩ = some (.int .i64 place) ∧ w'.cell? ⟨w.heap.size, 5, none⟩ = some (.int .i64 1)) (by kernel_rfl) ⟨by simpa using b1, by simpa using b2⟩ (fun hHeld => ?_)
  refine wpAnyH_take (i := 0) (v := ?v0) rfl (by kernel_rfl) (by kernel_rfl) (by kernel_rfl) (fun _ _ _ h => h) (Or.inl ⟨by rfl, ?y0⟩) (by assumption) ?r0
  case y0 => (intro w hSw; (try dsimp only at hSw); go_simp; (try with_reducible rfl))
  (try simp only [Act.put]); (try simp only [List.setIfInBounds_toArray]); (try simp only [List.set_cons_succ]); (try simp only [List.set_cons_zero])
  refine wpAnyH_take (i := 1) (v := ?v1) rfl (by kernel_rfl) (by kernel_rfl) (by kernel_rfl) (fun _ _ _ h => h) (Or.inl ⟨by rfl, ?y1⟩) (by assumption) ?r1
  case y1 => (intro w hSw; (try dsimp only at hSw); go_simp; (try with_reducible rfl))
  (try simp only [Act.put]); (try simp only [List.setIfInBounds_toArray]); (try simp only [List.set_cons_succ]); (try simp only [List.set_cons_zero])
  refine wpAnyH_take (i := 2) (v := ?v2) rfl (by kernel_rfl) (by kernel_rfl) (by kernel_rfl) (fun _ _ _ h => h) (Or.inl ⟨by rfl, ?y2⟩) (by assumption) ?r2
  case y2 => (intro w hSw; (try dsimp only at hSw); go_simp; (try with_reducible rfl))
  (try simp only [Act.put]); (try simp only [List.setIfInBounds_toArray]); (try simp only [List.set_cons_succ]); (try simp only [List.set_cons_zero])
  refine wpAnyH_take (i := 3) (v := ?v3) rfl (by kernel_rfl) (by kernel_rfl) (by kernel_rfl) (fun _ _ _ h => h) (Or.inl ⟨by rfl, ?y3⟩) (by assumption) ?r3
  case y3 => (intro w hSw; (try dsimp only at hSw); go_simp; (try with_reducible rfl))
  (try simp only [Act.put]); (try simp only [List.setIfInBounds_toArray]); (try simp only [List.set_cons_succ]); (try simp only [List.set_cons_zero])
  refine wpAnyH_take (i := 4) (v := ?v4) rfl (by kernel_rfl) (by kernel_rfl) (by kernel_rfl) (fun _ _ _ h => h) (Or.inl ⟨by rfl, ?y4⟩) (by assumption) ?r4
  case y4 => (intro w hSw; (try dsimp only at hSw); go_simp; (try with_reducible rfl))
  (try simp only [Act.put]); (try simp only [List.setIfInBounds_toArray]); (try simp only [List.set_cons_succ]); (try simp only [List.set_cons_zero])
  refine wpAnyH_take (i := 5) (v := ?v5) rfl (by kernel_rfl) (by kernel_rfl) (by kernel_rfl) (fun _ _ _ h => h) (Or.inl ⟨by rfl, ?y5⟩) (by assumption) ?r5
  case y5 => (intro w hSw; (try dsimp only at hSw); go_simp; (try with_reducible rfl))
  (try simp only [Act.put]); (try simp only [List.setIfInBounds_toArray]); (try simp only [List.set_cons_succ]); (try simp only [List.set_cons_zero])
  refine wpAnyH_take (i := 6) (v := ?v6) rfl (by kernel_rfl) (by kernel_rfl) (by kernel_rfl) (fun _ _ _ h => h) (Or.inl ⟨by rfl, ?y6⟩) (by assumption) ?r6
  case y6 => (intro w hSw; (try dsimp only at hSw); go_simp; (try with_reducible rfl))
  (try simp only [Act.put]); (try simp only [List.setIfInBounds_toArray]); (try simp only [List.set_cons_succ]); (try simp only [List.set_cons_zero])
  refine wpAnyH_take (i := 7) (v := ?v7) rfl (by kernel_rfl) (by kernel_rfl) (by kernel_rfl) (fun _ _ _ h => h) (Or.inl ⟨by rfl, ?y7⟩) (by assumption) ?r7
  case y7 => (intro w hSw; (try dsimp only at hSw); go_simp; (try with_reducible rfl))
  (try simp only [Act.put]); (try simp only [List.setIfInBounds_toArray]); (try simp only [List.set_cons_succ]); (try simp only [List.set_cons_zero])
  refine wpAnyH_take (i := 8) (v := ?v8) rfl (by kernel_rfl) (by kernel_rfl) (by kernel_rfl) (fun _ _ _ h => h) (Or.inl ⟨by rfl, ?y8⟩) (by assumption) ?r8
  case y8 => (intro w hSw; (try dsimp only at hSw); go_simp; (try with_reducible rfl))
  (try simp only [Act.put]); (try simp only [List.setIfInBounds_toArray]); (try simp only [List.set_cons_succ]); (try simp only [List.set_cons_zero])
  refine wpAnyH_take (i := 10) (v := ?v10) rfl (by kernel_rfl) (by kernel_rfl) (by kernel_rfl) (fun _ _ _ h => h) (Or.inl ⟨by rfl, ?y10⟩) (by assumption) ?r10
  case y10 => (intro w hSw; (try dsimp only at hSw); go_simp; (try with_reducible rfl))
  (try simp only [Act.put]); (try simp only [List.setIfInBounds_toArray]); (try simp only [List.set_cons_succ]); (try simp only [List.set_cons_zero])
  refine wpAnyH_take (i := 11) (v := ?v11) rfl (by kernel_rfl) (by kernel_rfl) (by kernel_rfl) (fun _ _ _ h => h) (Or.inl ⟨by rfl, ?y11⟩) (by assumption) ?r11
  case y11 => (intro w hSw; (try dsimp only at hSw); go_simp; (try with_reducible rfl))
  (try simp only [Act.put]); (try simp only [List.setIfInBounds_toArray]); (try simp only [List.set_cons_succ]); (try simp only [List.set_cons_zero])
  refine wpAnyH_take (i := 12) (v := ?v12) rfl (by kernel_rfl) (by kernel_rfl) (by kernel_rfl) (fun _ _ _ h => h) (Or.inl ⟨by rfl, ?y12⟩) (by assumption) ?r12
  case y12 => (intro w hSw; (try dsimp only at hSw); go_simp; (try with_reducible rfl))
  (try simp only [Act.put]); (try simp only [List.setIfInBounds_toArray]); (try simp only [List.set_cons_succ]); (try simp only [List.set_cons_zero])
  refine wpAnyH_take (i := 13) (v := ?v13) rfl (by kernel_rfl) (by kernel_rfl) (by kernel_rfl) (fun _ _ _ h => h) (Or.inl ⟨by rfl, ?y13⟩) (by assumption) ?r13
  case y13 => (intro w hSw; (try dsimp only at hSw); go_simp; (try with_reducible rfl))
  (try simp only [Act.put]); (try simp only [List.setIfInBounds_toArray]); (try simp only [List.set_cons_succ]); (try simp only [List.set_cons_zero])
  refine wpAnyH_take (i := 14) (v := ?v14) rfl (by kernel_rfl) (by kernel_rfl) (by kernel_rfl) (fun _ _ _ h => h) (Or.inl ⟨by rfl, ?y14⟩) (by assumption) ?r14
  case y14 => (intro w hSw; (try dsimp only at hSw); go_simp; (try with_reducible rfl))
  (try simp only [Act.put]); (try simp only [List.setIfInBounds_toArray]); (try simp only [List.set_cons_succ]); (try simp only [List.set_cons_zero])
  refine wpAnyH_take (i := 15) (v := ?v15) rfl (by kernel_rfl) (by kernel_rfl) (by kernel_rfl) (fun _ _ _ h => h) (Or.inl ⟨by rfl, ?y15⟩) (by assumption) ?r15
  case y15 => (intro w hSw; (try dsimp only at hSw); go_simp; (try with_reducible rfl))
  (try simp only [Act.put]); (try simp only [List.setIfInBounds_toArray]); (try simp only [List.set_cons_succ]); (try simp only [List.set_cons_zero])
  refine wpAnyH_take (i := 16) (v := ?v16) rfl (by kernel_rfl) (by kernel_rfl) (by kernel_rfl) (fun _ _ _ h => h) (Or.inl ⟨by rfl, ?y16⟩) (by assumption) ?r16
  case y16 => (intro w hSw; (try dsimp only at hSw); go_simp; (try with_reducible rfl))
  (try simp only [Act.put]); (try simp only [List.setIfInBounds_toArray]); (try simp only [List.set_cons_succ]); (try simp only [List.set_cons_zero])
  refine wpAnyH_take (i := 17) (v := ?v17) rfl (by kernel_rfl) (by kernel_rfl) (by kernel_rfl) (fun _ _ _ h => h) (Or.inl ⟨by rfl, ?y17⟩) (by assumption) ?r17
  case y17 => (intro w hSw; (try dsimp only at hSw); go_simp; (try with_reducible rfl))
  (try simp only [Act.put]); (try simp only [List.setIfInBounds_toArray]); (try simp only [List.set_cons_succ]); (try simp only [List.set_cons_zero])
  refine wpAnyH_take (i := 18) (v := ?v18) rfl (by kernel_rfl) (by kernel_rfl) (by kernel_rfl) (fun _ _ _ h => h) (Or.inl ⟨by rfl, ?y18⟩) (by assumption) ?r18
  case y18 => (intro w hSw; (try dsimp only at hSw); go_simp; (try with_reducible rfl))
  (try simp only [Act.put]); (try simp only [List.setIfInBounds_toArray]); (try simp only [List.set_cons_succ]); (try simp only [List.set_cons_zero])
  refine wpAnyH_take (i := 19) (v := ?v19) rfl (by kernel_rfl) (by kernel_rfl) (by kernel_rfl) (fun _ _ _ h => h) (Or.inl ⟨by rfl, ?y19⟩) (by assumption) ?r19
  case y19 => (intro w hSw; (try dsimp only at hSw); go_simp; (try with_reducible rfl))
  (try simp only [Act.put]); (try simp only [List.setIfInBounds_toArray]); (try simp only [List.set_cons_succ]); (try simp only [List.set_cons_zero])
  refine wpAnyH_take (i := 20) (v := ?v20) rfl (by kernel_rfl) (by kernel_rfl) (by kernel_rfl) (fun _ _ _ h => h) (Or.inl ⟨by rfl, ?y20⟩) (by assumption) ?r20
  case y20 => (intro w hSw; (try dsimp only at hSw); go_simp; (try with_reducible rfl))
  (try simp only [Act.put]); (try simp only [List.setIfInBounds_toArray]); (try simp only [List.set_cons_succ]); (try simp only [List.set_cons_zero])
  refine wpAnyH_take (i := 21) (v := ?v21) rfl (by kernel_rfl) (by kernel_rfl) (by kernel_rfl) (fun _ _ _ h => h) (Or.inl ⟨by rfl, ?y21⟩) (by assumption) ?r21
  case y21 => (intro w hSw; (try dsimp only at hSw); go_simp; (try with_reducible rfl))
  (try simp only [Act.put]); (try simp only [List.setIfInBounds_toArray]); (try simp only [List.set_cons_succ]); (try simp only [List.set_cons_zero])
  refine wpAnyH_take (i := 22) (v := ?v22) rfl (by kernel_rfl) (by kernel_rfl) (by kernel_rfl) (fun _ _ _ h => h) (Or.inl ⟨by rfl, ?y22⟩) (by assumption) ?r22
  case y22 => (intro w hSw; (try dsimp only at hSw); go_simp; (try with_reducible rfl))
  (try simp only [Act.put]); (try simp only [List.setIfInBounds_toArray]); (try simp only [List.set_cons_succ]); (try simp only [List.set_cons_zero])
  refine wpAnyH_take (i := 25) (v := ?v25) rfl (by kernel_rfl) (by kernel_rfl) (by kernel_rfl) (fun _ _ _ h => h) (Or.inl ⟨by rfl, ?y25⟩) (by assumption) ?r25
  case y25 => (intro w hSw; (try dsimp only at hSw); go_simp; (try with_reducible rfl))
  (try simp only [Act.put]); (try simp only [List.setIfInBounds_toArray]); (try simp only [List.set_cons_succ]); (try simp only [List.set_cons_zero])
  refine wpAnyH_take (i := 26) (v := ?v26) rfl (by kernel_rfl) (by kernel_rfl) (by kernel_rfl) (fun _ _ _ h => h) (Or.inl ⟨by rfl, ?y26⟩) (by assumption) ?r26
  case y26 => (intro w hSw; (try dsimp only at hSw); go_simp; (try with_reducible rfl))
  (try simp only [Act.put]); (try simp only [List.setIfInBounds_toArray]); (try simp only [List.set_cons_succ]); (try simp only [List.set_cons_zero])
  have goS : ∀ o, (W.alloc o).drew.cell? ⟨w.heap.size, 4, none⟩ = some (.int .i64 place) ∧ (W.alloc o).drew.cell? ⟨w.heap.size, 5, none⟩ = some (.int .i64 1) := fun o => ⟨by simpa using a1 o, by simpa using a2 o⟩
  refine wpAnyH_ready (rs := [9, 23]) (by kernel_rfl) (by simp) ?_
  refine AllReadyH.cons (o := { dst := some 24, op := Op.load 44 (Operand.tmp 23), type := 44, pos := "law.go:92", after := #[{ on := 8, ground := Ground.data }], guard := none }) rfl (fun K hK => ?_) ?_
  go_simp
  refine hK.out _ _ hHeld (fun hHeld => ?_)
  clear hK K
  (try simp only [Act.put]); (try simp only [List.setIfInBounds_toArray]); (try simp only [List.set_cons_succ]); (try simp only [List.set_cons_zero])
  refine wpAnyH_ready (rs := [23]) (by kernel_rfl) (by simp) ?_
  refine AllReadyH.cons (o := { dst := some 38, op := Op.buildSlice 44 1 #[(0, Operand.tmp 37)], type := 44, pos := "law.go:92", after := #[{ on := 22, ground := Ground.data }], guard := none }) rfl (fun K hK => ?_) AllReadyH.nil
  go_simp
  refine hK.out _ _ (goS _) (fun hHeld => ?_)
  clear hK K
  (try simp only [Act.put]); (try simp only [List.setIfInBounds_toArray]); (try simp only [List.set_cons_succ]); (try simp only [List.set_cons_zero])
  rotate_left
  refine AllReadyH.cons (o := { dst := some 38, op := Op.buildSlice 44 1 #[(0, Operand.tmp 37)], type := 44, pos := "law.go:92", after := #[{ on := 22, ground := Ground.data }], guard := none }) rfl (fun K hK => ?_) AllReadyH.nil
  go_simp
  refine hK.out _ _ (goS _) (fun hHeld => ?_)
  clear hK K
  (try simp only [Act.put]); (try simp only [List.setIfInBounds_toArray]); (try simp only [List.set_cons_succ]); (try simp only [List.set_cons_zero])
  refine wpAnyH_ready (rs := [9]) (by kernel_rfl) (by simp) ?_
  refine AllReadyH.cons (o := { dst := some 24, op := Op.load 44 (Operand.tmp 23), type := 44, pos := "law.go:92", after := #[{ on := 8, ground := Ground.data }], guard := none }) rfl (fun K hK => ?_) AllReadyH.nil
  go_simp
  refine hK.out _ _ hHeld (fun hHeld => ?_)
  clear hK K
  (try simp only [Act.put]); (try simp only [List.setIfInBounds_toArray]); (try simp only [List.set_cons_succ]); (try simp only [List.set_cons_zero])
  · refine wpAnyH_ready (rs := [24]) (by kernel_rfl) (by simp) ?_
    refine AllReadyH.cons (o := { dst := some 39, op := Op.call { callee := Callee.builtin Builtin.append, args := #[Operand.tmp 24, Operand.tmp 38], argTypes := #[44, 44] }, type := 44, pos := "law.go:92", after := #[{ on := 9, ground := Ground.data }, { on := 23, ground := Ground.data }], guard := none }) rfl (fun K hK => ?_) AllReadyH.nil
    refine step_append_anyN _ rfl (.tmp 24) (.tmp 38) 44 44 rfl 50 (.agg #[.int .i64 0, .int .i64 0]) 2 16 Try.underlying44 info50 rfl _ _ _ rfl (own2_alloc_drew HT.out.2.2.1 _) _ _ _ rfl (src_read W _ _) (by omega) (by omega) ?_
    intro v' w1 hown' hgrow hblk
    obtain ⟨ao', cap', rfl⟩ := own2_form hown'
    obtain ⟨c1, f1, D⟩ := TForm.grown HT.out (Keeps.none_alloc_drew' W _) [(place + at', place + at' + n)] hown' (by simp) (by rw [readCells_append]) hgrow hblk
    have DD : Hid (ToldDone w _ m 7 cs (.slice ao rs.length cap) (rs ++ [(place + at', place + at' + n)])) := D
    have e1 : w1.cell? ⟨w.heap.size, 4, none⟩ = some (.int .i64 place) := hgrow.cell (a := ⟨w.heap.size, 4, none⟩) (a1 _) HNE.out
    have e2 : w1.cell? ⟨w.heap.size, 5, none⟩ = some (.int .i64 1) := hgrow.cell (a := ⟨w.heap.size, 5, none⟩) (a2 _) HNE.out
    have e3 : ∀ u, (w1.setCell ⟨m, 7, none⟩ u).cell? ⟨w.heap.size, 4, none⟩ = some (.int .i64 place) ∧ (w1.setCell ⟨m, 7, none⟩ u).cell? ⟨w.heap.size, 5, none⟩ = some (.int .i64 1) := fun u => ⟨(cell_setCell_far w1 hqn u 7 4).trans e1, (cell_setCell_far w1 hqn u 7 5).trans e2⟩
    clear D hown' hgrow hblk
    refine hK.out _ _ ⟨e1, e2⟩ (fun hHeld => ?_)
    clear hK K
    (try simp only [Act.put]); (try simp only [List.setIfInBounds_toArray]); (try simp only [List.set_cons_succ]); (try simp only [List.set_cons_zero])
    refine wpAnyH_take (i := 27) (v := ?v27a) rfl (by kernel_rfl) (by kernel_rfl) (by kernel_rfl) (fun _ _ _ h => h) (Or.inl ⟨by rfl, ?y27a⟩) (by assumption) ?r27a
    case y27a => (intro w hSw; (try dsimp only at hSw); go_simp; (try with_reducible rfl))
    (try simp only [Act.put]); (try simp only [List.setIfInBounds_toArray]); (try simp only [List.set_cons_succ]); (try simp only [List.set_cons_zero])
    refine wpAnyH_ready (rs := [28]) (by kernel_rfl) (by simp) ?_
    refine AllReadyH.cons (o := { dst := none, op := Op.store 44 (Operand.tmp 42) (Operand.tmp 39), type := 0, pos := "law.go:92", after := #[{ on := 27, ground := Ground.data }, { on := 24, ground := Ground.data }, { on := 24, ground := Ground.chain }, { on := 0, ground := Ground.phase }, { on := 1, ground := Ground.phase }, { on := 2, ground := Ground.phase }, { on := 3, ground := Ground.phase }, { on := 4, ground := Ground.phase }, { on := 5, ground := Ground.phase }, { on := 6, ground := Ground.phase }, { on := 7, ground := Ground.phase }, { on := 8, ground := Ground.phase }, { on := 9, ground := Ground.phase }, { on := 10, ground := Ground.phase }, { on := 11, ground := Ground.phase }, { on := 12, ground := Ground.phase }, { on := 13, ground := Ground.phase }, { on := 14, ground := Ground.phase }, { on := 15, ground := Ground.phase }, { on := 16, ground := Ground.phase }, { on := 17, ground := Ground.phase }, { on := 18, ground := Ground.phase }, { on := 19, ground := Ground.phase }, { on := 20, ground := Ground.phase }, { on := 21, ground := Ground.phase }, { on := 22, ground := Ground.phase }, { on := 23, ground := Ground.phase }, { on := 24, ground := Ground.phase }], guard := none }) rfl (fun K hK => ?_) AllReadyH.nil
    go_simp
    refine hK.out _ _ (e3 _) (fun hHeld => ?_)
    clear hK K
    (try simp only [Act.put]); (try simp only [List.setIfInBounds_toArray]); (try simp only [List.set_cons_succ]); (try simp only [List.set_cons_zero])
    refine wpAnyH_done (by kernel_rfl) ?_ _
    go_wp2
    go_end0
    exact ⟨rfl, DD.out⟩
  · refine wpAnyH_ready (rs := [24]) (by kernel_rfl) (by simp) ?_
    refine AllReadyH.cons (o := { dst := some 39, op := Op.call { callee := Callee.builtin Builtin.append, args := #[Operand.tmp 24, Operand.tmp 38], argTypes := #[44, 44] }, type := 44, pos := "law.go:92", after := #[{ on := 9, ground := Ground.data }, { on := 23, ground := Ground.data }], guard := none }) rfl (fun K hK => ?_) AllReadyH.nil
    refine step_append_anyN _ rfl (.tmp 24) (.tmp 38) 44 44 rfl 50 (.agg #[.int .i64 0, .int .i64 0]) 2 16 Try.underlying44 info50 rfl _ _ _ rfl (own2_alloc_drew HT.out.2.2.1 _) _ _ _ rfl (src_read W _ _) (by omega) (by omega) ?_
    intro v' w1 hown' hgrow hblk
    obtain ⟨ao', cap', rfl⟩ := own2_form hown'
    obtain ⟨c1, f1, D⟩ := TForm.grown HT.out (Keeps.none_alloc_drew' W _) [(place + at', place + at' + n)] hown' (by simp) (by rw [readCells_append]) hgrow hblk
    have DD : Hid (ToldDone w _ m 7 cs (.slice ao rs.length cap) (rs ++ [(place + at', place + at' + n)])) := D
    have e1 : w1.cell? ⟨w.heap.size, 4, none⟩ = some (.int .i64 place) := hgrow.cell (a := ⟨w.heap.size, 4, none⟩) (a1 _) HNE.out
    have e2 : w1.cell? ⟨w.heap.size, 5, none⟩ = some (.int .i64 1) := hgrow.cell (a := ⟨w.heap.size, 5, none⟩) (a2 _) HNE.out
    have e3 : ∀ u, (w1.setCell ⟨m, 7, none⟩ u).cell? ⟨w.heap.size, 4, none⟩ = some (.int .i64 place) ∧ (w1.setCell ⟨m, 7, none⟩ u).cell? ⟨w.heap.size, 5, none⟩ = some (.int .i64 1) := fun u => ⟨(cell_setCell_far w1 hqn u 7 4).trans e1, (cell_setCell_far w1 hqn u 7 5).trans e2⟩
    clear D hown' hgrow hblk
    refine hK.out _ _ ⟨e1, e2⟩ (fun hHeld => ?_)
    clear hK K
    (try simp only [Act.put]); (try simp only [List.setIfInBounds_toArray]); (try simp only [List.set_cons_succ]); (try simp only [List.set_cons_zero])
    refine wpAnyH_take (i := 27) (v := ?v27b) rfl (by kernel_rfl) (by kernel_rfl) (by kernel_rfl) (fun _ _ _ h => h) (Or.inl ⟨by rfl, ?y27b⟩) (by assumption) ?r27b
    case y27b => (intro w hSw; (try dsimp only at hSw); go_simp; (try with_reducible rfl))
    (try simp only [Act.put]); (try simp only [List.setIfInBounds_toArray]); (try simp only [List.set_cons_succ]); (try simp only [List.set_cons_zero])
    refine wpAnyH_ready (rs := [28]) (by kernel_rfl) (by simp) ?_
    refine AllReadyH.cons (o := { dst := none, op := Op.store 44 (Operand.tmp 42) (Operand.tmp 39), type := 0, pos := "law.go:92", after := #[{ on := 27, ground := Ground.data }, { on := 24, ground := Ground.data }, { on := 24, ground := Ground.chain }, { on := 0, ground := Ground.phase }, { on := 1, ground := Ground.phase }, { on := 2, ground := Ground.phase }, { on := 3, ground := Ground.phase }, { on := 4, ground := Ground.phase }, { on := 5, ground := Ground.phase }, { on := 6, ground := Ground.phase }, { on := 7, ground := Ground.phase }, { on := 8, ground := Ground.phase }, { on := 9, ground := Ground.phase }, { on := 10, ground := Ground.phase }, { on := 11, ground := Ground.phase }, { on := 12, ground := Ground.phase }, { on := 13, ground := Ground.phase }, { on := 14, ground := Ground.phase }, { on := 15, ground := Ground.phase }, { on := 16, ground := Ground.phase }, { on := 17, ground := Ground.phase }, { on := 18, ground := Ground.phase }, { on := 19, ground := Ground.phase }, { on := 20, ground := Ground.phase }, { on := 21, ground := Ground.phase }, { on := 22, ground := Ground.phase }, { on := 23, ground := Ground.phase }, { on := 24, ground := Ground.phase }], guard := none }) rfl (fun K hK => ?_) AllReadyH.nil
    go_simp
    refine hK.out _ _ (e3 _) (fun hHeld => ?_)
    clear hK K
    (try simp only [Act.put]); (try simp only [List.setIfInBounds_toArray]); (try simp only [List.set_cons_succ]); (try simp only [List.set_cons_zero])
    refine wpAnyH_done (by kernel_rfl) ?_ _
    go_wp2
    go_end0
    exact ⟨rfl, DD.out⟩

set_option maxRecDepth 100000 in
set_option maxHeartbeats 4000000 in
theorem reads_told2 (cs : Array Value) (x0 x1 x2 x3 : Value) (place at' n : Int) (m : Nat) (w : World) (ao : Option Addr) (cap : Nat) (rs : List (Int × Int))
    (hrow : w.heap[m]? = some (.cells cs 87 (0, 0))) (hcs : cs[8]? = some (.slice ao rs.length cap)) (hown : w.ownsRow 0 50 2 (.slice ao rs.length cap) rs.length (readCells rs)) (hn : 0 < n)
    (hp0 : 0 ≤ place + at') (hp1 : place + at' + n ≤ 9223372036854775807) (hrs : rs.length ≤ 1000000000000) :
    Calls Try.prog 42 #[.pointer (some ⟨m, 0, none⟩), .agg #[x0, x1, x2, x3, .int .i64 place, .int .i64 2], .int .i64 at', .int .i64 n] w fun e w' => e = .returned (.tuple #[]) ∧ ToldDone w w' m 8 cs (.slice ao rs.length cap) (rs ++ [(place + at', place + at' + n)]) := by
  have HF : Hid (w.heap[m]? = some (.cells cs 87 (0, 0)) ∧ cs[8]? = some (.slice ao rs.length cap) ∧ w.ownsRow 0 50 2 (.slice ao rs.length cap) rs.length (readCells rs)) := ⟨hrow, hcs, hown⟩
  have hm : m < w.heap.size := (Array.getElem?_eq_some_iff.1 hrow).1
  have hm0 : w.cell? ⟨m, 8, none⟩ = some (.slice ao rs.length cap) := by rw [cell_of_row w m 8 _ _ _ hrow]; exact hcs
  clear hrow hcs hown
  go_enter Try.func42, Try.ntmps42
  go_wp2
  obtain ⟨W, hW⟩ : ∃ W, W = w.alloc (.cells #[x0, x1, x2, x3, .int .i64 place, .int .i64 2] 93) := ⟨_, rfl⟩
  rw [← hW]
  have HK : Hid (Keeps w W (fun _ => False)) := by rw [hW]; exact (Keeps.refl _ _).alloc _
  have hbx : W.heap[w.heap.size]? = some (.cells #[x0, x1, x2, x3, .int .i64 place, .int .i64 2] 93 (0, 0)) := by rw [hW]; exact heap_alloc_new w _
  have b1 : W.cell? ⟨w.heap.size, 4, none⟩ = some (.int .i64 place) := by rw [cell_of_row _ _ 4 _ _ _ hbx]; rfl
  have b2 : W.cell? ⟨w.heap.size, 5, none⟩ = some (.int .i64 2) := by rw [cell_of_row _ _ 5 _ _ _ hbx]; rfl
  have h0 : W.cell? ⟨m, 8, none⟩ = some (.slice ao rs.length cap) := HK.out.cell' hm0 id
  have a1 : ∀ o, (W.alloc o).cell? ⟨w.heap.size, 4, none⟩ = some (.int .i64 place) := fun o => ((Keeps.refl W (fun _ => False)).alloc o).cell' b1 id
  have a2 : ∀ o, (W.alloc o).cell? ⟨w.heap.size, 5, none⟩ = some (.int .i64 2) := fun o => ((Keeps.refl W (fun _ => False)).alloc o).cell' b2 id
  have a3 : ∀ o, (W.alloc o).cell? ⟨m, 8, none⟩ = some (.slice ao rs.length cap) := fun o => ((Keeps.refl W (fun _ => False)).alloc o).cell' h0 id
  have wa : IntKind.i64.wrap (place + at') = place + at' := by rw [IntKind.wrap_i64]; omega
  have wb : IntKind.i64.wrap (place + at' + n) = place + at' + n := by rw [IntKind.wrap_i64]; omega
  have HT := TForm.mk' HK.out HF.out.1 HF.out.2.1 HF.out.2.2
  have HT : Hid (TForm w W m 8 cs ao cap rs) := HT
  have hqn : m ≠ w.heap.size := by omega
  have HNE : Hid (some w.heap.size ≠ (Value.slice ao rs.length cap).ownBlock) := fun e => by have := (HF.out.2.2.lt _ e.symm).2; omega
  clear hW hbx hm0 HF
  refine wp_region_held_drew (S := fun w' => w'.cell? ⟨w.heap.size, 4, none⟩ = some (.int .i64 place) ∧ w'.cell? ⟨w.heap.size, 5, none⟩ = some (.int .i64 2)) (by kernel_rfl) ⟨by simpa using b1, by simpa using b2⟩ (fun hHeld => ?_)
  refine wpAnyH_take (i := 0) (v := ?v0) rfl (by kernel_rfl) (by kernel_rfl) (by kernel_rfl) (fun _ _ _ h => h) (Or.inl ⟨by rfl, ?y0⟩) (by assumption) ?r0
  case y0 => (intro w hSw; (try dsimp only at hSw); go_simp; (try with_reducible rfl))
  (try simp only [Act.put]); (try simp only [List.setIfInBounds_toArray]); (try simp only [List.set_cons_succ]); (try simp only [List.set_cons_zero])
  refine wpAnyH_take (i := 1) (v := ?v1) rfl (by kernel_rfl) (by kernel_rfl) (by kernel_rfl) (fun _ _ _ h => h) (Or.inl ⟨by rfl, ?y1⟩) (by assumption) ?r1
  case y1 => (intro w hSw; (try dsimp only at hSw); go_simp; (try with_reducible rfl))
  (try simp only [Act.put]); (try simp only [List.setIfInBounds_toArray]); (try simp only [List.set_cons_succ]); (try simp only [List.set_cons_zero])
  refine wpAnyH_take (i := 2) (v := ?v2) rfl (by kernel_rfl) (by kernel_rfl) (by kernel_rfl) (fun _ _ _ h => h) (Or.inl ⟨by rfl, ?y2⟩) (by assumption) ?r2
  case y2 => (intro w hSw; (try dsimp only at hSw); go_simp; (try with_reducible rfl))
  (try simp only [Act.put]); (try simp only [List.setIfInBounds_toArray]); (try simp only [List.set_cons_succ]); (try simp only [List.set_cons_zero])
  refine wpAnyH_take (i := 3) (v := ?v3) rfl (by kernel_rfl) (by kernel_rfl) (by kernel_rfl) (fun _ _ _ h => h) (Or.inl ⟨by rfl, ?y3⟩) (by assumption) ?r3
  case y3 => (intro w hSw; (try dsimp only at hSw); go_simp; (try with_reducible rfl))
  (try simp only [Act.put]); (try simp only [List.setIfInBounds_toArray]); (try simp only [List.set_cons_succ]); (try simp only [List.set_cons_zero])
  refine wpAnyH_take (i := 4) (v := ?v4) rfl (by kernel_rfl) (by kernel_rfl) (by kernel_rfl) (fun _ _ _ h => h) (Or.inl ⟨by rfl, ?y4⟩) (by assumption) ?r4
  case y4 => (intro w hSw; (try dsimp only at hSw); go_simp; (try with_reducible rfl))
  (try simp only [Act.put]); (try simp only [List.setIfInBounds_toArray]); (try simp only [List.set_cons_succ]); (try simp only [List.set_cons_zero])
  refine wpAnyH_take (i := 5) (v := ?v5) rfl (by kernel_rfl) (by kernel_rfl) (by kernel_rfl) (fun _ _ _ h => h) (Or.inl ⟨by rfl, ?y5⟩) (by assumption) ?r5
  case y5 => (intro w hSw; (try dsimp only at hSw); go_simp; (try with_reducible rfl))
  (try simp only [Act.put]); (try simp only [List.setIfInBounds_toArray]); (try simp only [List.set_cons_succ]); (try simp only [List.set_cons_zero])
  refine wpAnyH_take (i := 6) (v := ?v6) rfl (by kernel_rfl) (by kernel_rfl) (by kernel_rfl) (fun _ _ _ h => h) (Or.inl ⟨by rfl, ?y6⟩) (by assumption) ?r6
  case y6 => (intro w hSw; (try dsimp only at hSw); go_simp; (try with_reducible rfl))
  (try simp only [Act.put]); (try simp only [List.setIfInBounds_toArray]); (try simp only [List.set_cons_succ]); (try simp only [List.set_cons_zero])
  refine wpAnyH_take (i := 7) (v := ?v7) rfl (by kernel_rfl) (by kernel_rfl) (by kernel_rfl) (fun _ _ _ h => h) (Or.inl ⟨by rfl, ?y7⟩) (by assumption) ?r7
  case y7 => (intro w hSw; (try dsimp only at hSw); go_simp; (try with_reducible rfl))
  (try simp only [Act.put]); (try simp only [List.setIfInBounds_toArray]); (try simp only [List.set_cons_succ]); (try simp only [List.set_cons_zero])
  refine wpAnyH_take (i := 8) (v := ?v8) rfl (by kernel_rfl) (by kernel_rfl) (by kernel_rfl) (fun _ _ _ h => h) (Or.inl ⟨by rfl, ?y8⟩) (by assumption) ?r8
  case y8 => (intro w hSw; (try dsimp only at hSw); go_simp; (try with_reducible rfl))
  (try simp only [Act.put]); (try simp only [List.setIfInBounds_toArray]); (try simp only [List.set_cons_succ]); (try simp only [List.set_cons_zero])
  refine wpAnyH_take (i := 10) (v := ?v10) rfl (by kernel_rfl) (by kernel_rfl) (by kernel_rfl) (fun _ _ _ h => h) (Or.inl ⟨by rfl, ?y10⟩) (by assumption) ?r10
  case y10 => (intro w hSw; (try dsimp only at hSw); go_simp; (try with_reducible rfl))
  (try simp only [Act.put]); (try simp only [List.setIfInBounds_toArray]); (try simp only [List.set_cons_succ]); (try simp only [List.set_cons_zero])
  refine wpAnyH_take (i := 11) (v := ?v11) rfl (by kernel_rfl) (by kernel_rfl) (by kernel_rfl) (fun _ _ _ h => h) (Or.inl ⟨by rfl, ?y11⟩) (by assumption) ?r11
  case y11 => (intro w hSw; (try dsimp only at hSw); go_simp; (try with_reducible rfl))
  (try simp only [Act.put]); (try simp only [List.setIfInBounds_toArray]); (try simp only [List.set_cons_succ]); (try simp only [List.set_cons_zero])
  refine wpAnyH_take (i := 12) (v := ?v12) rfl (by kernel_rfl) (by kernel_rfl) (by kernel_rfl) (fun _ _ _ h => h) (Or.inl ⟨by rfl, ?y12⟩) (by assumption) ?r12
  case y12 => (intro w hSw; (try dsimp only at hSw); go_simp; (try with_reducible rfl))
  (try simp only [Act.put]); (try simp only [List.setIfInBounds_toArray]); (try simp only [List.set_cons_succ]); (try simp only [List.set_cons_zero])
  refine wpAnyH_take (i := 13) (v := ?v13) rfl (by kernel_rfl) (by kernel_rfl) (by kernel_rfl) (fun _ _ _ h => h) (Or.inl ⟨by rfl, ?y13⟩) (by assumption) ?r13
  case y13 => (intro w hSw; (try dsimp only at hSw); go_simp; (try with_reducible rfl))
  (try simp only [Act.put]); (try simp only [List.setIfInBounds_toArray]); (try simp only [List.set_cons_succ]); (try simp only [List.set_cons_zero])
  refine wpAnyH_take (i := 14) (v := ?v14) rfl (by kernel_rfl) (by kernel_rfl) (by kernel_rfl) (fun _ _ _ h => h) (Or.inl ⟨by rfl, ?y14⟩) (by assumption) ?r14
  case y14 => (intro w hSw; (try dsimp only at hSw); go_simp; (try with_reducible rfl))
  (try simp only [Act.put]); (try simp only [List.setIfInBounds_toArray]); (try simp only [List.set_cons_succ]); (try simp only [List.set_cons_zero])
  refine wpAnyH_take (i := 15) (v := ?v15) rfl (by kernel_rfl) (by kernel_rfl) (by kernel_rfl) (fun _ _ _ h => h) (Or.inl ⟨by rfl, ?y15⟩) (by assumption) ?r15
  case y15 => (intro w hSw; (try dsimp only at hSw); go_simp; (try with_reducible rfl))
  (try simp only [Act.put]); (try simp only [List.setIfInBounds_toArray]); (try simp only [List.set_cons_succ]); (try simp only [List.set_cons_zero])
  refine wpAnyH_take (i := 16) (v := ?v16) rfl (by kernel_rfl) (by kernel_rfl) (by kernel_rfl) (fun _ _ _ h => h) (Or.inl ⟨by rfl, ?y16⟩) (by assumption) ?r16
  case y16 => (intro w hSw; (try dsimp only at hSw); go_simp; (try with_reducible rfl))
  (try simp only [Act.put]); (try simp only [List.setIfInBounds_toArray]); (try simp only [List.set_cons_succ]); (try simp only [List.set_cons_zero])
  refine wpAnyH_take (i := 17) (v := ?v17) rfl (by kernel_rfl) (by kernel_rfl) (by kernel_rfl) (fun _ _ _ h => h) (Or.inl ⟨by rfl, ?y17⟩) (by assumption) ?r17
  case y17 => (intro w hSw; (try dsimp only at hSw); go_simp; (try with_reducible rfl))
  (try simp only [Act.put]); (try simp only [List.setIfInBounds_toArray]); (try simp only [List.set_cons_succ]); (try simp only [List.set_cons_zero])
  refine wpAnyH_take (i := 18) (v := ?v18) rfl (by kernel_rfl) (by kernel_rfl) (by kernel_rfl) (fun _ _ _ h => h) (Or.inl ⟨by rfl, ?y18⟩) (by assumption) ?r18
  case y18 => (intro w hSw; (try dsimp only at hSw); go_simp; (try with_reducible rfl))
  (try simp only [Act.put]); (try simp only [List.setIfInBounds_toArray]); (try simp only [List.set_cons_succ]); (try simp only [List.set_cons_zero])
  refine wpAnyH_take (i := 19) (v := ?v19) rfl (by kernel_rfl) (by kernel_rfl) (by kernel_rfl) (fun _ _ _ h => h) (Or.inl ⟨by rfl, ?y19⟩) (by assumption) ?r19
  case y19 => (intro w hSw; (try dsimp only at hSw); go_simp; (try with_reducible rfl))
  (try simp only [Act.put]); (try simp only [List.setIfInBounds_toArray]); (try simp only [List.set_cons_succ]); (try simp only [List.set_cons_zero])
  refine wpAnyH_take (i := 20) (v := ?v20) rfl (by kernel_rfl) (by kernel_rfl) (by kernel_rfl) (fun _ _ _ h => h) (Or.inl ⟨by rfl, ?y20⟩) (by assumption) ?r20
  case y20 => (intro w hSw; (try dsimp only at hSw); go_simp; (try with_reducible rfl))
  (try simp only [Act.put]); (try simp only [List.setIfInBounds_toArray]); (try simp only [List.set_cons_succ]); (try simp only [List.set_cons_zero])
  refine wpAnyH_take (i := 21) (v := ?v21) rfl (by kernel_rfl) (by kernel_rfl) (by kernel_rfl) (fun _ _ _ h => h) (Or.inl ⟨by rfl, ?y21⟩) (by assumption) ?r21
  case y21 => (intro w hSw; (try dsimp only at hSw); go_simp; (try with_reducible rfl))
  (try simp only [Act.put]); (try simp only [List.setIfInBounds_toArray]); (try simp only [List.set_cons_succ]); (try simp only [List.set_cons_zero])
  refine wpAnyH_take (i := 22) (v := ?v22) rfl (by kernel_rfl) (by kernel_rfl) (by kernel_rfl) (fun _ _ _ h => h) (Or.inl ⟨by rfl, ?y22⟩) (by assumption) ?r22
  case y22 => (intro w hSw; (try dsimp only at hSw); go_simp; (try with_reducible rfl))
  (try simp only [Act.put]); (try simp only [List.setIfInBounds_toArray]); (try simp only [List.set_cons_succ]); (try simp only [List.set_cons_zero])
  refine wpAnyH_take (i := 25) (v := ?v25) rfl (by kernel_rfl) (by kernel_rfl) (by kernel_rfl) (fun _ _ _ h => h) (Or.inl ⟨by rfl, ?y25⟩) (by assumption) ?r25
  case y25 => (intro w hSw; (try dsimp only at hSw); go_simp; (try with_reducible rfl))
  (try simp only [Act.put]); (try simp only [List.setIfInBounds_toArray]); (try simp only [List.set_cons_succ]); (try simp only [List.set_cons_zero])
  refine wpAnyH_take (i := 26) (v := ?v26) rfl (by kernel_rfl) (by kernel_rfl) (by kernel_rfl) (fun _ _ _ h => h) (Or.inl ⟨by rfl, ?y26⟩) (by assumption) ?r26
  case y26 => (intro w hSw; (try dsimp only at hSw); go_simp; (try with_reducible rfl))
  (try simp only [Act.put]); (try simp only [List.setIfInBounds_toArray]); (try simp only [List.set_cons_succ]); (try simp only [List.set_cons_zero])
  have goS : ∀ o, (W.alloc o).drew.cell? ⟨w.heap.size, 4, none⟩ = some (.int .i64 place) ∧ (W.alloc o).drew.cell? ⟨w.heap.size, 5, none⟩ = some (.int .i64 2) := fun o => ⟨by simpa using a1 o, by simpa using a2 o⟩
  refine wpAnyH_ready (rs := [9, 23]) (by kernel_rfl) (by simp) ?_
  refine AllReadyH.cons (o := { dst := some 24, op := Op.load 44 (Operand.tmp 23), type := 44, pos := "law.go:92", after := #[{ on := 8, ground := Ground.data }], guard := none }) rfl (fun K hK => ?_) ?_
  go_simp
  refine hK.out _ _ hHeld (fun hHeld => ?_)
  clear hK K
  (try simp only [Act.put]); (try simp only [List.setIfInBounds_toArray]); (try simp only [List.set_cons_succ]); (try simp only [List.set_cons_zero])
  refine wpAnyH_ready (rs := [23]) (by kernel_rfl) (by simp) ?_
  refine AllReadyH.cons (o := { dst := some 38, op := Op.buildSlice 44 1 #[(0, Operand.tmp 37)], type := 44, pos := "law.go:92", after := #[{ on := 22, ground := Ground.data }], guard := none }) rfl (fun K hK => ?_) AllReadyH.nil
  go_simp
  refine hK.out _ _ (goS _) (fun hHeld => ?_)
  clear hK K
  (try simp only [Act.put]); (try simp only [List.setIfInBounds_toArray]); (try simp only [List.set_cons_succ]); (try simp only [List.set_cons_zero])
  rotate_left
  refine AllReadyH.cons (o := { dst := some 38, op := Op.buildSlice 44 1 #[(0, Operand.tmp 37)], type := 44, pos := "law.go:92", after := #[{ on := 22, ground := Ground.data }], guard := none }) rfl (fun K hK => ?_) AllReadyH.nil
  go_simp
  refine hK.out _ _ (goS _) (fun hHeld => ?_)
  clear hK K
  (try simp only [Act.put]); (try simp only [List.setIfInBounds_toArray]); (try simp only [List.set_cons_succ]); (try simp only [List.set_cons_zero])
  refine wpAnyH_ready (rs := [9]) (by kernel_rfl) (by simp) ?_
  refine AllReadyH.cons (o := { dst := some 24, op := Op.load 44 (Operand.tmp 23), type := 44, pos := "law.go:92", after := #[{ on := 8, ground := Ground.data }], guard := none }) rfl (fun K hK => ?_) AllReadyH.nil
  go_simp
  refine hK.out _ _ hHeld (fun hHeld => ?_)
  clear hK K
  (try simp only [Act.put]); (try simp only [List.setIfInBounds_toArray]); (try simp only [List.set_cons_succ]); (try simp only [List.set_cons_zero])
  · refine wpAnyH_ready (rs := [24]) (by kernel_rfl) (by simp) ?_
    refine AllReadyH.cons (o := { dst := some 39, op := Op.call { callee := Callee.builtin Builtin.append, args := #[Operand.tmp 24, Operand.tmp 38], argTypes := #[44, 44] }, type := 44, pos := "law.go:92", after := #[{ on := 9, ground := Ground.data }, { on := 23, ground := Ground.data }], guard := none }) rfl (fun K hK => ?_) AllReadyH.nil
    refine step_append_anyN _ rfl (.tmp 24) (.tmp 38) 44 44 rfl 50 (.agg #[.int .i64 0, .int .i64 0]) 2 16 Try.underlying44 info50 rfl _ _ _ rfl (own2_alloc_drew HT.out.2.2.1 _) _ _ _ rfl (src_read W _ _) (by omega) (by omega) ?_
    intro v' w1 hown' hgrow hblk
    obtain ⟨ao', cap', rfl⟩ := own2_form hown'
    obtain ⟨c1, f1, D⟩ := TForm.grown HT.out (Keeps.none_alloc_drew' W _) [(place + at', place + at' + n)] hown' (by simp) (by rw [readCells_append]) hgrow hblk
    have DD : Hid (ToldDone w _ m 8 cs (.slice ao rs.length cap) (rs ++ [(place + at', place + at' + n)])) := D
    have e1 : w1.cell? ⟨w.heap.size, 4, none⟩ = some (.int .i64 place) := hgrow.cell (a := ⟨w.heap.size, 4, none⟩) (a1 _) HNE.out
    have e2 : w1.cell? ⟨w.heap.size, 5, none⟩ = some (.int .i64 2) := hgrow.cell (a := ⟨w.heap.size, 5, none⟩) (a2 _) HNE.out
    have e3 : ∀ u, (w1.setCell ⟨m, 8, none⟩ u).cell? ⟨w.heap.size, 4, none⟩ = some (.int .i64 place) ∧ (w1.setCell ⟨m, 8, none⟩ u).cell? ⟨w.heap.size, 5, none⟩ = some (.int .i64 2) := fun u => ⟨(cell_setCell_far w1 hqn u 8 4).trans e1, (cell_setCell_far w1 hqn u 8 5).trans e2⟩
    clear D hown' hgrow hblk
    refine hK.out _ _ ⟨e1, e2⟩ (fun hHeld => ?_)
    clear hK K
    (try simp only [Act.put]); (try simp only [List.setIfInBounds_toArray]); (try simp only [List.set_cons_succ]); (try simp only [List.set_cons_zero])
    refine wpAnyH_take (i := 27) (v := ?v27a) rfl (by kernel_rfl) (by kernel_rfl) (by kernel_rfl) (fun _ _ _ h => h) (Or.inl ⟨by rfl, ?y27a⟩) (by assumption) ?r27a
    case y27a => (intro w hSw; (try dsimp only at hSw); go_simp; (try with_reducible rfl))
    (try simp only [Act.put]); (try simp only [List.setIfInBounds_toArray]); (try simp only [List.set_cons_succ]); (try simp only [List.set_cons_zero])
    refine wpAnyH_ready (rs := [28]) (by kernel_rfl) (by simp) ?_
    refine AllReadyH.cons (o := { dst := none, op := Op.store 44 (Operand.tmp 42) (Operand.tmp 39), type := 0, pos := "law.go:92", after := #[{ on := 27, ground := Ground.data }, { on := 24, ground := Ground.data }, { on := 24, ground := Ground.chain }, { on := 0, ground := Ground.phase }, { on := 1, ground := Ground.phase }, { on := 2, ground := Ground.phase }, { on := 3, ground := Ground.phase }, { on := 4, ground := Ground.phase }, { on := 5, ground := Ground.phase }, { on := 6, ground := Ground.phase }, { on := 7, ground := Ground.phase }, { on := 8, ground := Ground.phase }, { on := 9, ground := Ground.phase }, { on := 10, ground := Ground.phase }, { on := 11, ground := Ground.phase }, { on := 12, ground := Ground.phase }, { on := 13, ground := Ground.phase }, { on := 14, ground := Ground.phase }, { on := 15, ground := Ground.phase }, { on := 16, ground := Ground.phase }, { on := 17, ground := Ground.phase }, { on := 18, ground := Ground.phase }, { on := 19, ground := Ground.phase }, { on := 20, ground := Ground.phase }, { on := 21, ground := Ground.phase }, { on := 22, ground := Ground.phase }, { on := 23, ground := Ground.phase }, { on := 24, ground := Ground.phase }], guard := none }) rfl (fun K hK => ?_) AllReadyH.nil
    go_simp
    refine hK.out _ _ (e3 _) (fun hHeld => ?_)
    clear hK K
    (try simp only [Act.put]); (try simp only [List.setIfInBounds_toArray]); (try simp only [List.set_cons_succ]); (try simp only [List.set_cons_zero])
    refine wpAnyH_done (by kernel_rfl) ?_ _
    go_wp2
    go_end0
    exact ⟨rfl, DD.out⟩
  · refine wpAnyH_ready (rs := [24]) (by kernel_rfl) (by simp) ?_
    refine AllReadyH.cons (o := { dst := some 39, op := Op.call { callee := Callee.builtin Builtin.append, args := #[Operand.tmp 24, Operand.tmp 38], argTypes := #[44, 44] }, type := 44, pos := "law.go:92", after := #[{ on := 9, ground := Ground.data }, { on := 23, ground := Ground.data }], guard := none }) rfl (fun K hK => ?_) AllReadyH.nil
    refine step_append_anyN _ rfl (.tmp 24) (.tmp 38) 44 44 rfl 50 (.agg #[.int .i64 0, .int .i64 0]) 2 16 Try.underlying44 info50 rfl _ _ _ rfl (own2_alloc_drew HT.out.2.2.1 _) _ _ _ rfl (src_read W _ _) (by omega) (by omega) ?_
    intro v' w1 hown' hgrow hblk
    obtain ⟨ao', cap', rfl⟩ := own2_form hown'
    obtain ⟨c1, f1, D⟩ := TForm.grown HT.out (Keeps.none_alloc_drew' W _) [(place + at', place + at' + n)] hown' (by simp) (by rw [readCells_append]) hgrow hblk
    have DD : Hid (ToldDone w _ m 8 cs (.slice ao rs.length cap) (rs ++ [(place + at', place + at' + n)])) := D
    have e1 : w1.cell? ⟨w.heap.size, 4, none⟩ = some (.int .i64 place) := hgrow.cell (a := ⟨w.heap.size, 4, none⟩) (a1 _) HNE.out
    have e2 : w1.cell? ⟨w.heap.size, 5, none⟩ = some (.int .i64 2) := hgrow.cell (a := ⟨w.heap.size, 5, none⟩) (a2 _) HNE.out
    have e3 : ∀ u, (w1.setCell ⟨m, 8, none⟩ u).cell? ⟨w.heap.size, 4, none⟩ = some (.int .i64 place) ∧ (w1.setCell ⟨m, 8, none⟩ u).cell? ⟨w.heap.size, 5, none⟩ = some (.int .i64 2) := fun u => ⟨(cell_setCell_far w1 hqn u 8 4).trans e1, (cell_setCell_far w1 hqn u 8 5).trans e2⟩
    clear D hown' hgrow hblk
    refine hK.out _ _ ⟨e1, e2⟩ (fun hHeld => ?_)
    clear hK K
    (try simp only [Act.put]); (try simp only [List.setIfInBounds_toArray]); (try simp only [List.set_cons_succ]); (try simp only [List.set_cons_zero])
    refine wpAnyH_take (i := 27) (v := ?v27b) rfl (by kernel_rfl) (by kernel_rfl) (by kernel_rfl) (fun _ _ _ h => h) (Or.inl ⟨by rfl, ?y27b⟩) (by assumption) ?r27b
    case y27b => (intro w hSw; (try dsimp only at hSw); go_simp; (try with_reducible rfl))
    (try simp only [Act.put]); (try simp only [List.setIfInBounds_toArray]); (try simp only [List.set_cons_succ]); (try simp only [List.set_cons_zero])
    refine wpAnyH_ready (rs := [28]) (by kernel_rfl) (by simp) ?_
    refine AllReadyH.cons (o := { dst := none, op := Op.store 44 (Operand.tmp 42) (Operand.tmp 39), type := 0, pos := "law.go:92", after := #[{ on := 27, ground := Ground.data }, { on := 24, ground := Ground.data }, { on := 24, ground := Ground.chain }, { on := 0, ground := Ground.phase }, { on := 1, ground := Ground.phase }, { on := 2, ground := Ground.phase }, { on := 3, ground := Ground.phase }, { on := 4, ground := Ground.phase }, { on := 5, ground := Ground.phase }, { on := 6, ground := Ground.phase }, { on := 7, ground := Ground.phase }, { on := 8, ground := Ground.phase }, { on := 9, ground := Ground.phase }, { on := 10, ground := Ground.phase }, { on := 11, ground := Ground.phase }, { on := 12, ground := Ground.phase }, { on := 13, ground := Ground.phase }, { on := 14, ground := Ground.phase }, { on := 15, ground := Ground.phase }, { on := 16, ground := Ground.phase }, { on := 17, ground := Ground.phase }, { on := 18, ground := Ground.phase }, { on := 19, ground := Ground.phase }, { on := 20, ground := Ground.phase }, { on := 21, ground := Ground.phase }, { on := 22, ground := Ground.phase }, { on := 23, ground := Ground.phase }, { on := 24, ground := Ground.phase }], guard := none }) rfl (fun K hK => ?_) AllReadyH.nil
    go_simp
    refine hK.out _ _ (e3 _) (fun hHeld => ?_)
    clear hK K
    (try simp only [Act.put]); (try simp only [List.setIfInBounds_toArray]); (try simp only [List.set_cons_succ]); (try simp only [List.set_cons_zero])
    refine wpAnyH_done (by kernel_rfl) ?_ _
    go_wp2
    go_end0
    exact ⟨rfl, DD.out⟩
end Go.Proofs.Ytomlndoffoeaiaa.Kit
