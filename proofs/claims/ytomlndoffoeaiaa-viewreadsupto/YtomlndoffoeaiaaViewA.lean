import Derived.Test.YtomlndoffoeaiaaRows
import Derived.Test.YtomlndoffoeaiaaKitTwo
import Derived.Test.YtomlndoffoeaiaaExactA
import Derived.Deep.RegionHeld3
namespace Go.Proofs.Ytomlndoffoeaiaa.Kit
open Go.RowKit Go.Deep

/-- a view as a value -/
def viewV (ao : Option Addr) (n cap : Nat) (place : Int) (q : Option Nat) : Value := .agg #[.slice ao n cap, .int .i64 place, .pointer (q.map fun b => ⟨b, 0, none⟩)]

theorem sum_in (a b : Int) (ha : 0 ≤ a) (hb : 0 ≤ b) (h : a + b ≤ 9223372036854775807) : Ex.sumB [a, b] = true ∧ Ex.sumV [a, b] = a + b := by
  have e : Ex.sumB [a, b] = true := (Ex.sumB_iff _).2 ⟨by simp [ha, hb], by simp; omega⟩
  exact ⟨e, by rw [Ex.sumV_yes e]; simp⟩
theorem sum_out (a b : Int) (n : Int) (h : ¬ (0 ≤ a ∧ 0 ≤ b ∧ a + b ≤ n)) : Ex.sumB [a, b] = false ∨ (Ex.sumB [a, b] = true ∧ n < Ex.sumV [a, b]) := by
  by_cases e : Ex.sumB [a, b] = true
  · refine .inr ⟨e, ?_⟩
    have := (Ex.sumB_iff _).1 e
    rw [Ex.sumV_yes e]
    simp at this ⊢
    omega
  · exact .inl (by simpa using e)

theorem sum_pair (b off cap : Nat) (x y : Int) (w : World) (h0 : w.cell? ⟨b, off, none⟩ = some (.int .i64 x)) (h1 : w.cell? ⟨b, off + 1, none⟩ = some (.int .i64 y)) :
    Calls Try.prog 35 #[.slice (some ⟨b, off, none⟩) 2 cap] w fun e w' => e = .returned (.tuple #[.int .i64 (Ex.sumV [x, y]), .bool (Ex.sumB [x, y])]) ∧ w = w' := by
  refine (Ex.sum_some b off 2 cap [x, y] w rfl (by omega) ?_).mono fun e w' h => ⟨h.1, h.2.symm⟩
  intro k hk
  match k, hk with
  | 0, _ => simpa using h0
  | 1, _ => simpa using h1

set_option maxRecDepth 100000 in
set_option maxHeartbeats 400000 in
theorem end_in (ao : Option Addr) (n cap : Nat) (place : Int) (q : Option Nat) (a b : Int) (w : World) (hn : n ≤ 9223372036854775807) (ha : 0 ≤ a) (hb : 0 ≤ b) (h : a + b ≤ n) :
    Calls Try.prog 50 #[viewV ao n cap place q, .int .i64 a, .int .i64 b] w fun e w' => e = .returned (.tuple #[.int .i64 (a + b), .bool true]) ∧ Keeps w w' (fun _ => False) := by
  obtain ⟨e1, e2⟩ := sum_in a b ha hb (by omega)
  unfold viewV
  go_enter Try.func50, Try.ntmps50
  go_wp2_with (first | (go_at_call 35; refine (sum_pair _ _ _ a b _ (by go_simp) (by go_simp)).mono ?_; rintro e w' ⟨rfl, rfl⟩))
  go_quiet (fail)
  go_wp2
  go_ret2
  exact ⟨rfl, (((Keeps.refl _ _).alloc _).alloc _).drewN _⟩

set_option maxRecDepth 100000 in
set_option maxHeartbeats 400000 in
theorem end_out (ao : Option Addr) (n cap : Nat) (place : Int) (q : Option Nat) (a b : Int) (w : World) (h : ¬ (0 ≤ a ∧ 0 ≤ b ∧ a + b ≤ n)) :
    Calls Try.prog 50 #[viewV ao n cap place q, .int .i64 a, .int .i64 b] w fun e w' => (∃ x, e = .returned (.tuple #[.int .i64 x, .bool false])) ∧ Keeps w w' (fun _ => False) := by
  unfold viewV
  rcases sum_out a b n h with e1 | ⟨e1, e2⟩
  · go_enter Try.func50, Try.ntmps50
    go_wp2_with (first | (go_at_call 35; refine (sum_pair _ _ _ a b _ (by go_simp) (by go_simp)).mono ?_; rintro e w' ⟨rfl, rfl⟩))
    go_quiet (fail)
    go_wp2
    go_ret2
    exact ⟨⟨_, rfl⟩, (((Keeps.refl _ _).alloc _).alloc _).drewN _⟩
  · have e3 : (n : Int) < Ex.sumV [a, b] := e2
    go_enter Try.func50, Try.ntmps50
    go_wp2_with (first | (go_at_call 35; refine (sum_pair _ _ _ a b _ (by go_simp) (by go_simp)).mono ?_; rintro e w' ⟨rfl, rfl⟩))
    go_quiet (fail)
    go_wp2
    go_ret2
    exact ⟨⟨_, Ex.ret2 rfl (decide_eq_false (by omega))⟩, (((Keeps.refl _ _).alloc _).alloc _).drewN _⟩

theorem tell_none (ao : Option Addr) (n cap : Nat) (place a b : Int) (w : World) :
    Calls Try.prog 68 #[viewV ao n cap place none, .int .i64 a, .int .i64 b] w fun e w' => e = .returned (.tuple #[]) ∧ Keeps w w' (fun _ => False) := by
  unfold viewV
  go_enter Try.func68, Try.ntmps68
  go_wp2
  go_end0
  exact ⟨rfl, (Keeps.refl _ _).alloc _⟩

theorem tell_empty (ao : Option Addr) (n cap : Nat) (place a b : Int) (q : Nat) (w : World) (h : b ≤ a) :
    Calls Try.prog 68 #[viewV ao n cap place (some q), .int .i64 a, .int .i64 b] w fun e w' => e = .returned (.tuple #[]) ∧ Keeps w w' (fun _ => False) := by
  unfold viewV
  go_enter Try.func68, Try.ntmps68
  go_wp2
  go_end0
  exact ⟨rfl, (Keeps.refl _ _).alloc _⟩

theorem info50 : (Try.prog.info? 50).map (fun i => (i.zero, i.size, i.bytes)) = some (some (.agg #[.int .i64 0, .int .i64 0]), 2, 16) := by kernel_rfl

/-- reads as cells -/
def readCells (rs : List (Int × Int)) : List Value := rs.flatMap fun r => [.int .i64 r.1, .int .i64 r.2]
theorem readCells_append (a b : List (Int × Int)) : readCells (a ++ b) = readCells a ++ readCells b := by simp [readCells]
theorem readCells_length (a : List (Int × Int)) : (readCells a).length = a.length * 2 := by
  induction a with
  | nil => rfl
  | cons x r ih => rw [← List.singleton_append, readCells_append, List.length_append, ih, List.length_append]; simp [readCells]; omega

/-- a watch in memory -/
def WatchAt (w : World) (q : Nat) (gq : Option Nat) (rs : List (Int × Int)) : Prop :=
  ∃ v, w.heap[q]? = some (.cells #[v] 109 (0, 0)) ∧ w.ownsRow 0 50 2 v rs.length (readCells rs) ∧ v.ownBlock = gq

theorem WatchAt.kept {w w' : World} {q : Nat} {gq : Option Nat} {rs : List (Int × Int)} {S : Nat → Prop} (h : WatchAt w q gq rs) (hk : Keeps w w' S) (hp : ¬ S q) (hg : ∀ g, gq = some g → ¬ S g) : WatchAt w' q gq rs := by
  obtain ⟨v, hv, hown, hb⟩ := h
  refine ⟨v, ?_, ?_, hb⟩
  · rw [hk.block q (Array.getElem?_eq_some_iff.1 hv).1 hp]; exact hv
  · refine ⟨hown.1, ?_⟩
    rcases hown.2 with hn | ⟨g, cap, cur, rfl, hb', hgg, rest⟩
    · exact .inl hn
    · refine .inr ⟨g, cap, cur, rfl, hb', ?_, rest⟩
      rw [hk.block g (Array.getElem?_eq_some_iff.1 hgg).1 (hg g (by rw [← hb]; rfl))]
      exact hgg
theorem WatchAt.lt {w : World} {q : Nat} {gq : Option Nat} {rs : List (Int × Int)} (h : WatchAt w q gq rs) : q < w.heap.size ∧ ∀ g, gq = some g → g < w.heap.size := by
  obtain ⟨v, hv, hown, hb⟩ := h
  exact ⟨(Array.getElem?_eq_some_iff.1 hv).1, fun g hg => (hown.lt g (hb.trans hg)).2⟩

theorem own2_form {w : World} {e : Nat} {v : Value} {n : Nat} {xs : List Value} (h : w.ownsRow 0 e 2 v n xs) : ∃ ao cap, v = .slice ao n cap := by
  rcases h.2 with ⟨rfl, h0⟩ | ⟨g, cap, cur, rfl, _⟩
  · exact ⟨none, 0, by rw [h0]⟩
  · exact ⟨_, _, rfl⟩

def WatchForm (w : World) (q : Nat) (gq : Option Nat) (rs : List (Int × Int)) (ao : Option Addr) (cap : Nat) : Prop :=
  w.heap[q]? = some (.cells #[.slice ao rs.length cap] 109 (0, 0)) ∧ w.ownsRow 0 50 2 (.slice ao rs.length cap) rs.length (readCells rs) ∧ (Value.slice ao rs.length cap).ownBlock = gq

theorem WatchAt.open {w : World} {q : Nat} {gq : Option Nat} {rs : List (Int × Int)} (h : WatchAt w q gq rs) :
    ∃ ao cap, Hid (WatchForm w q gq rs ao cap) ∧ w.cell? ⟨q, 0, none⟩ = some (.slice ao rs.length cap) ∧ w.frozen? ⟨q, 0, none⟩ = false := by
  obtain ⟨v, hv, hown, hb⟩ := h
  obtain ⟨ao, cap, rfl⟩ := own2_form hown
  refine ⟨ao, cap, ⟨hv, hown, hb⟩, ?_, frozen_of_row w q 0 _ _ hv⟩
  rw [cell_of_row w q 0 _ _ _ hv]; rfl

theorem own2_ne {w : World} {ty q : Nat} {v : Value} {n : Nat} {xs : List Value} {cs : Array Value} (hty : ty ≠ 50) (hp : w.heap[q]? = some (.cells cs ty (0, 0))) (hown : w.ownsRow 0 50 2 v n xs) : v.ownBlock ≠ some q := by
  intro e
  rcases hown.2 with ⟨rfl, _⟩ | ⟨g, cap, cur, rfl, _, hgg, _⟩
  · simp [Value.ownBlock] at e
  · simp [Value.ownBlock] at e
    subst e
    rw [hp] at hgg
    simp at hgg
    exact hty hgg.2

/-- what a call leaves of a watch -/
def WatchDone (w w' : World) (q : Nat) (gq : Option Nat) (rs' : List (Int × Int)) : Prop :=
  ∃ gq', WatchAt w' q gq' rs' ∧ Keeps w w' (fun k => k = q ∨ gq = some k) ∧ (gq' = gq ∨ ∀ g, gq' = some g → w.heap.size ≤ g)

theorem WatchForm.grown {w W w1 : World} {q : Nat} {gq : Option Nat} {rs : List (Int × Int)} {ao : Option Addr} {cap : Nat} (hf : WatchForm w q gq rs ao cap) (hW : Keeps w W (fun _ => False))
    (news : List (Int × Int)) {v' : Value} {n' : Nat} {xs' : List Value} (hown' : w1.ownsRow 0 50 2 v' n' xs') (hn : n' = (rs ++ news).length) (hx : xs' = readCells (rs ++ news))
    (hgrow : W.grownBy w1 (Value.slice ao rs.length cap).ownBlock) (hblk : v'.ownBlock = (Value.slice ao rs.length cap).ownBlock ∨ ∀ g, v'.ownBlock = some g → W.heap.size ≤ g) :
    w1.cell? ⟨q, 0, none⟩ = some (.slice ao rs.length cap) ∧ w1.frozen? ⟨q, 0, none⟩ = false ∧ WatchDone w (w1.setCell ⟨q, 0, none⟩ v') q gq (rs ++ news) := by
  obtain ⟨hh, ho, hg⟩ := hf
  subst hn hx
  have hh' : W.heap[q]? = some (.cells #[.slice ao rs.length cap] 109 (0, 0)) := by
    rw [hW.block q (Array.getElem?_eq_some_iff.1 hh).1 id]; exact hh
  have hne := own2_ne (ty := 109) (by decide) hh ho
  have hp1 : w1.heap[q]? = some (.cells #[.slice ao rs.length cap] 109 (0, 0)) := by
    rw [hgrow.block q (Array.getElem?_eq_some_iff.1 hh').1 (fun e => hne e.symm)]; exact hh'
  have hne' := own2_ne (ty := 109) (by decide) hp1 hown'
  refine ⟨by rw [cell_of_row w1 q 0 _ _ _ hp1]; rfl, frozen_of_row w1 q 0 _ _ hp1, v'.ownBlock, ⟨v', ?_, ?_, rfl⟩, ?_, ?_⟩
  · rw [heap_setCell_same w1 q 0 _ 109 v' hp1]; rfl
  · refine ⟨hown'.1, ?_⟩
    rcases hown'.2 with hn | ⟨g, cap, cur, rfl, hb', hgg, rest⟩
    · exact .inl hn
    · refine .inr ⟨g, cap, cur, rfl, hb', ?_, rest⟩
      rw [heap_setCell_other w1 ⟨q, 0, none⟩ g _ (fun e => hne' (by simp [Value.ownBlock, e]))]
      exact hgg
  · have k := (hW.mono (T := fun k => k = q ∨ gq = some k) fun _ _ h => h.elim).trans (Keeps.ofGrown hgrow) fun j _ e => Or.inr (hg ▸ e)
    exact k.setCell (p := ⟨q, 0, none⟩) (fun _ => Or.inl rfl) _
  · rcases hblk with e | e
    · exact .inl (e.trans hg)
    · exact .inr fun g h => Nat.le_trans hW.size (e g h)

theorem cell_setCell_far (w : World) {q p : Nat} (h : q ≠ p) (u : Value) (i j : Nat) : (w.setCell ⟨q, i, none⟩ u).cell? ⟨p, j, none⟩ = w.cell? ⟨p, j, none⟩ :=
  World.cell?_of_block (w := w) (a := ⟨p, j, none⟩) (heap_setCell_other w ⟨q, i, none⟩ p u (fun e => h e.symm))
theorem WatchDone.from {w W w' : World} {q : Nat} {gq : Option Nat} {rs : List (Int × Int)} (hk : Keeps w W (fun _ => False)) (h : WatchDone W w' q gq rs) : WatchDone w w' q gq rs := by
  obtain ⟨g', i', k', b'⟩ := h
  refine ⟨g', i', (hk.mono fun _ _ h => h.elim).trans k' (fun _ _ h => h), b'.imp id fun e g h => Nat.le_trans hk.size (e g h)⟩
theorem src_read (w : World) (x y : Int) : Src Try.prog 2 44 (.slice (some ⟨w.heap.size, 0, none⟩) 1 1) 1 (readCells [(x, y)]) (w.alloc (.cells #[.int .i64 x, .int .i64 y] 50)).drew := by
  refine Src.ofSlice _ Try.underlying44 _ _ _ _ rfl ?_ (by simp [readCells, Value.oneCell'])
  intro j v hj
  match j, hj with
  | 0, hj => simp [readCells] at hj; subst hj; simp [Addr.add]
  | 1, hj => simp [readCells] at hj; subst hj; simp [Addr.add]
theorem own2_alloc_drew {w : World} {v : Value} {n : Nat} {xs : List Value} (h : w.ownsRow 0 50 2 v n xs) (o : Obj) : (w.alloc o).drew.ownsRow 0 50 2 v n xs := h.alloc o

theorem Keeps.none_alloc_drew' (w : World) (o : Obj) : Keeps w (w.alloc o).drew (fun _ => False) := ((Keeps.refl w _).alloc o).drew

set_option maxRecDepth 100000 in
set_option maxHeartbeats 2000000 in
theorem tell_told (ao : Option Addr) (n cap : Nat) (place a b : Int) (q : Nat) (gq : Option Nat) (rs : List (Int × Int)) (w : World) (hI : WatchAt w q gq rs) (h : a < b) (hp0 : 0 ≤ place + a) (hp1 : place + b ≤ 9223372036854775807) (hrs : rs.length ≤ 1000000000000) :
    Calls Try.prog 68 #[viewV ao n cap place (some q), .int .i64 a, .int .i64 b] w fun e w' => e = .returned (.tuple #[]) ∧ WatchDone w w' q gq (rs ++ [(place + a, place + b)]) := by
  have HI : Hid (WatchAt w q gq rs) := hI
  have hq : q < w.heap.size := hI.lt.1
  clear hI
  unfold viewV
  go_enter Try.func68, Try.ntmps68
  go_wp2
  obtain ⟨W, hW⟩ : ∃ W, W = w.alloc (.cells #[.slice ao n cap, .int .i64 place, .pointer (some ⟨q, 0, none⟩)] 37) := ⟨_, rfl⟩
  rw [← hW]
  have HK : Hid (Keeps w W (fun _ => False)) := by rw [hW]; exact (Keeps.refl _ _).alloc _
  have hsz : w.heap.size < W.heap.size := by rw [hW]; simp
  have hrow : W.heap[w.heap.size]? = some (.cells #[.slice ao n cap, .int .i64 place, .pointer (some ⟨q, 0, none⟩)] 37 (0, 0)) := by rw [hW]; exact heap_alloc_new w _
  have b1 : W.cell? ⟨w.heap.size, 1, none⟩ = some (.int .i64 place) := by rw [cell_of_row _ _ 1 _ _ _ hrow]; rfl
  have b2 : W.cell? ⟨w.heap.size, 2, none⟩ = some (.pointer (some ⟨q, 0, none⟩)) := by rw [cell_of_row _ _ 2 _ _ _ hrow]; rfl
  obtain ⟨aq, cq, HF, h0, hf⟩ := (HI.out.kept HK.out id (fun _ _ => id)).open
  have a1 : ∀ o, (W.alloc o).cell? ⟨w.heap.size, 1, none⟩ = some (.int .i64 place) := fun o => ((Keeps.refl W (fun _ => False)).alloc o).cell' b1 id
  have a2 : ∀ o, (W.alloc o).cell? ⟨w.heap.size, 2, none⟩ = some (.pointer (some ⟨q, 0, none⟩)) := fun o => ((Keeps.refl W (fun _ => False)).alloc o).cell' b2 id
  have a3 : ∀ o, (W.alloc o).cell? ⟨q, 0, none⟩ = some (.slice aq rs.length cq) := fun o => ((Keeps.refl W (fun _ => False)).alloc o).cell' h0 id
  have wa : IntKind.i64.wrap (place + a) = place + a := by rw [IntKind.wrap_i64]; omega
  have wb : IntKind.i64.wrap (place + b) = place + b := by rw [IntKind.wrap_i64]; omega
  have HNE : Hid (some w.heap.size ≠ (Value.slice aq rs.length cq).ownBlock) := fun e => by have := (HF.out.2.1.lt _ e.symm); have := HI.out.lt.2 w.heap.size (HF.out.2.2.symm.trans e.symm); omega
  clear hW hrow HI
  have hqn : q ≠ w.heap.size := by omega
  refine wp_region_held_drew (S := fun w' => w'.cell? ⟨w.heap.size, 1, none⟩ = some (.int .i64 place) ∧ w'.cell? ⟨w.heap.size, 2, none⟩ = some (.pointer (some ⟨q, 0, none⟩))) (by kernel_rfl) ⟨by simpa using b1, by simpa using b2⟩ (fun hHeld => ?_)
  refine wpAnyH_take (i := 0) (v := ?v0) rfl (by kernel_rfl) (by kernel_rfl) (by kernel_rfl) (fun _ _ _ h => h) (Or.inl ⟨by rfl, ?y0⟩) (by assumption) ?r0
  case y0 => (intro w hSw; (try dsimp only at hSw); go_simp; (try with_reducible rfl))
  (try simp only [Act.put]); (try simp only [List.setIfInBounds_toArray]); (try simp only [List.set_cons_succ]); (try simp only [List.set_cons_zero])
  refine wpAnyH_take (i := 1) (v := ?v1) rfl (by kernel_rfl) (by kernel_rfl) (by kernel_rfl) (fun _ _ _ h => h) (Or.inl ⟨by rfl, ?y1⟩) (by assumption) ?r1
  case y1 => (intro w hSw; (try dsimp only at hSw); go_simp; (try with_reducible rfl))
  (try simp only [Act.put]); (try simp only [List.setIfInBounds_toArray]); (try simp only [List.set_cons_succ]); (try simp only [List.set_cons_zero])
  refine wpAnyH_take (i := 2) (v := ?v2) rfl (by kernel_rfl) (by kernel_rfl) (by kernel_rfl) (fun _ _ _ h => h) (Or.inl ⟨by rfl, ?y2⟩) (by assumption) ?r2
  case y2 => (intro w hSw; (try dsimp only at hSw); go_simp; (try with_reducible rfl))
  (try simp only [Act.put]); (try simp only [List.setIfInBounds_toArray]); (try simp only [List.set_cons_succ]); (try simp only [List.set_cons_zero])
  refine wpAnyH_take (i := 3) (v := ?v3) rfl (by kernel_rfl) (by kernel_rfl) (by kernel_rfl) (fun _ _ _ h => h) (Or.inl ⟨by rfl, ?y3⟩) (by assumption) ?r3
  case y3 => (intro w hSw; (try dsimp only at hSw); go_simp; (try with_reducible rfl))
  (try simp only [Act.put]); (try simp only [List.setIfInBounds_toArray]); (try simp only [List.set_cons_succ]); (try simp only [List.set_cons_zero])
  refine wpAnyH_take (i := 4) (v := ?v4) rfl (by kernel_rfl) (by kernel_rfl) (by kernel_rfl) (fun _ _ _ h => h) (Or.inl ⟨by rfl, ?y4⟩) (by assumption) ?r4
  case y4 => (intro w hSw; (try dsimp only at hSw); go_simp; (try with_reducible rfl))
  (try simp only [Act.put]); (try simp only [List.setIfInBounds_toArray]); (try simp only [List.set_cons_succ]); (try simp only [List.set_cons_zero])
  refine wpAnyH_take (i := 5) (v := ?v5) rfl (by kernel_rfl) (by kernel_rfl) (by kernel_rfl) (fun _ _ _ h => h) (Or.inl ⟨by rfl, ?y5⟩) (by assumption) ?r5
  case y5 => (intro w hSw; (try dsimp only at hSw); go_simp; (try with_reducible rfl))
  (try simp only [Act.put]); (try simp only [List.setIfInBounds_toArray]); (try simp only [List.set_cons_succ]); (try simp only [List.set_cons_zero])
  refine wpAnyH_take (i := 7) (v := ?v7) rfl (by kernel_rfl) (by kernel_rfl) (by kernel_rfl) (fun _ _ _ h => h) (Or.inl ⟨by rfl, ?y7⟩) (by assumption) ?r7
  case y7 => (intro w hSw; (try dsimp only at hSw); go_simp; (try with_reducible rfl))
  (try simp only [Act.put]); (try simp only [List.setIfInBounds_toArray]); (try simp only [List.set_cons_succ]); (try simp only [List.set_cons_zero])
  refine wpAnyH_take (i := 8) (v := ?v8) rfl (by kernel_rfl) (by kernel_rfl) (by kernel_rfl) (fun _ _ _ h => h) (Or.inl ⟨by rfl, ?y8⟩) (by assumption) ?r8
  case y8 => (intro w hSw; (try dsimp only at hSw); go_simp; (try with_reducible rfl))
  (try simp only [Act.put]); (try simp only [List.setIfInBounds_toArray]); (try simp only [List.set_cons_succ]); (try simp only [List.set_cons_zero])
  refine wpAnyH_take (i := 9) (v := ?v9) rfl (by kernel_rfl) (by kernel_rfl) (by kernel_rfl) (fun _ _ _ h => h) (Or.inl ⟨by rfl, ?y9⟩) (by assumption) ?r9
  case y9 => (intro w hSw; (try dsimp only at hSw); go_simp; (try with_reducible rfl))
  (try simp only [Act.put]); (try simp only [List.setIfInBounds_toArray]); (try simp only [List.set_cons_succ]); (try simp only [List.set_cons_zero])
  refine wpAnyH_take (i := 10) (v := ?v10) rfl (by kernel_rfl) (by kernel_rfl) (by kernel_rfl) (fun _ _ _ h => h) (Or.inl ⟨by rfl, ?y10⟩) (by assumption) ?r10
  case y10 => (intro w hSw; (try dsimp only at hSw); go_simp; (try with_reducible rfl))
  (try simp only [Act.put]); (try simp only [List.setIfInBounds_toArray]); (try simp only [List.set_cons_succ]); (try simp only [List.set_cons_zero])
  refine wpAnyH_take (i := 11) (v := ?v11) rfl (by kernel_rfl) (by kernel_rfl) (by kernel_rfl) (fun _ _ _ h => h) (Or.inl ⟨by rfl, ?y11⟩) (by assumption) ?r11
  case y11 => (intro w hSw; (try dsimp only at hSw); go_simp; (try with_reducible rfl))
  (try simp only [Act.put]); (try simp only [List.setIfInBounds_toArray]); (try simp only [List.set_cons_succ]); (try simp only [List.set_cons_zero])
  refine wpAnyH_take (i := 12) (v := ?v12) rfl (by kernel_rfl) (by kernel_rfl) (by kernel_rfl) (fun _ _ _ h => h) (Or.inl ⟨by rfl, ?y12⟩) (by assumption) ?r12
  case y12 => (intro w hSw; (try dsimp only at hSw); go_simp; (try with_reducible rfl))
  (try simp only [Act.put]); (try simp only [List.setIfInBounds_toArray]); (try simp only [List.set_cons_succ]); (try simp only [List.set_cons_zero])
  refine wpAnyH_take (i := 13) (v := ?v13) rfl (by kernel_rfl) (by kernel_rfl) (by kernel_rfl) (fun _ _ _ h => h) (Or.inl ⟨by rfl, ?y13⟩) (by assumption) ?r13
  case y13 => (intro w hSw; (try dsimp only at hSw); go_simp; (try with_reducible rfl))
  (try simp only [Act.put]); (try simp only [List.setIfInBounds_toArray]); (try simp only [List.set_cons_succ]); (try simp only [List.set_cons_zero])
  refine wpAnyH_take (i := 14) (v := ?v14) rfl (by kernel_rfl) (by kernel_rfl) (by kernel_rfl) (fun _ _ _ h => h) (Or.inl ⟨by rfl, ?y14⟩) (by assumption) ?r14
  case y14 => (intro w hSw; (try dsimp only at hSw); go_simp; (try with_reducible rfl))
  (try simp only [Act.put]); (try simp only [List.setIfInBounds_toArray]); (try simp only [List.set_cons_succ]); (try simp only [List.set_cons_zero])
  refine wpAnyH_take (i := 15) (v := ?v15) rfl (by kernel_rfl) (by kernel_rfl) (by kernel_rfl) (fun _ _ _ h => h) (Or.inl ⟨by rfl, ?y15⟩) (by assumption) ?r15
  case y15 => (intro w hSw; (try dsimp only at hSw); go_simp; (try with_reducible rfl))
  (try simp only [Act.put]); (try simp only [List.setIfInBounds_toArray]); (try simp only [List.set_cons_succ]); (try simp only [List.set_cons_zero])
  have goS : ∀ o, (W.alloc o).drew.cell? ⟨w.heap.size, 1, none⟩ = some (.int .i64 place) ∧ (W.alloc o).drew.cell? ⟨w.heap.size, 2, none⟩ = some (.pointer (some ⟨q, 0, none⟩)) := fun o => ⟨by simpa using a1 o, by simpa using a2 o⟩
  refine wpAnyH_ready (rs := [6, 16]) (by kernel_rfl) (by simp) ?_
  refine AllReadyH.cons (o := { dst := some 20, op := Op.load 44 (Operand.tmp 19), type := 44, pos := "view.go:123", after := #[{ on := 5, ground := Ground.data }], guard := none }) rfl (fun K hK => ?_) ?_
  go_simp
  refine hK.out _ _ hHeld (fun hHeld => ?_)
  clear hK K
  (try simp only [Act.put]); (try simp only [List.setIfInBounds_toArray]); (try simp only [List.set_cons_succ]); (try simp only [List.set_cons_zero])
  refine wpAnyH_ready (rs := [16]) (by kernel_rfl) (by simp) ?_
  refine AllReadyH.cons (o := { dst := some 30, op := Op.buildSlice 44 1 #[(0, Operand.tmp 29)], type := 44, pos := "view.go:123", after := #[{ on := 15, ground := Ground.data }], guard := none }) rfl (fun K hK => ?_) AllReadyH.nil
  go_simp
  refine hK.out _ _ (goS _) (fun hHeld => ?_)
  clear hK K
  (try simp only [Act.put]); (try simp only [List.setIfInBounds_toArray]); (try simp only [List.set_cons_succ]); (try simp only [List.set_cons_zero])
  rotate_left
  refine AllReadyH.cons (o := { dst := some 30, op := Op.buildSlice 44 1 #[(0, Operand.tmp 29)], type := 44, pos := "view.go:123", after := #[{ on := 15, ground := Ground.data }], guard := none }) rfl (fun K hK => ?_) AllReadyH.nil
  go_simp
  refine hK.out _ _ (goS _) (fun hHeld => ?_)
  clear hK K
  (try simp only [Act.put]); (try simp only [List.setIfInBounds_toArray]); (try simp only [List.set_cons_succ]); (try simp only [List.set_cons_zero])
  refine wpAnyH_ready (rs := [6]) (by kernel_rfl) (by simp) ?_
  refine AllReadyH.cons (o := { dst := some 20, op := Op.load 44 (Operand.tmp 19), type := 44, pos := "view.go:123", after := #[{ on := 5, ground := Ground.data }], guard := none }) rfl (fun K hK => ?_) AllReadyH.nil
  go_simp
  refine hK.out _ _ hHeld (fun hHeld => ?_)
  clear hK K
  (try simp only [Act.put]); (try simp only [List.setIfInBounds_toArray]); (try simp only [List.set_cons_succ]); (try simp only [List.set_cons_zero])
  · refine wpAnyH_ready (rs := [17]) (by kernel_rfl) (by simp) ?_
    refine AllReadyH.cons (o := { dst := some 31, op := Op.call { callee := Callee.builtin Builtin.append, args := #[Operand.tmp 20, Operand.tmp 30], argTypes := #[44, 44] }, type := 44, pos := "view.go:123", after := #[{ on := 6, ground := Ground.data }, { on := 16, ground := Ground.data }], guard := none }) rfl (fun K hK => ?_) AllReadyH.nil
    refine step_append_anyN _ rfl (.tmp 20) (.tmp 30) 44 44 rfl 50 (.agg #[.int .i64 0, .int .i64 0]) 2 16 Try.underlying44 info50 rfl _ _ _ rfl (own2_alloc_drew HF.out.2.1 _) _ _ _ rfl (src_read W _ _) (by omega) (by omega) ?_
    intro v' w1 hown' hgrow hblk
    obtain ⟨ao', cap', rfl⟩ := own2_form hown'
    obtain ⟨c1, f1, D⟩ := WatchForm.grown HF.out (Keeps.none_alloc_drew' W _) [(place + a, place + b)] hown' (by simp) (by rw [readCells_append]) hgrow hblk
    have DD : Hid (WatchDone W _ q gq (rs ++ [(place + a, place + b)])) := D
    have e1 : w1.cell? ⟨w.heap.size, 1, none⟩ = some (.int .i64 place) := hgrow.cell (a := ⟨w.heap.size, 1, none⟩) (a1 _) HNE.out
    have e2 : w1.cell? ⟨w.heap.size, 2, none⟩ = some (.pointer (some ⟨q, 0, none⟩)) := hgrow.cell (a := ⟨w.heap.size, 2, none⟩) (a2 _) HNE.out
    have e3 : ∀ u, (w1.setCell ⟨q, 0, none⟩ u).cell? ⟨w.heap.size, 1, none⟩ = some (.int .i64 place) ∧ (w1.setCell ⟨q, 0, none⟩ u).cell? ⟨w.heap.size, 2, none⟩ = some (.pointer (some ⟨q, 0, none⟩)) := fun u => ⟨(cell_setCell_far w1 hqn u 0 1).trans e1, (cell_setCell_far w1 hqn u 0 2).trans e2⟩
    clear D hown' hgrow hblk
    refine hK.out _ _ ⟨e1, e2⟩ (fun hHeld => ?_)
    clear hK K
    (try simp only [Act.put]); (try simp only [List.setIfInBounds_toArray]); (try simp only [List.set_cons_succ]); (try simp only [List.set_cons_zero])
    refine wpAnyH_take (i := 18) (v := ?v18) rfl (by kernel_rfl) (by kernel_rfl) (by kernel_rfl) (fun _ _ _ h => h) (Or.inl ⟨by rfl, ?y18⟩) (by assumption) ?r18
    case y18 => (intro w hSw; (try dsimp only at hSw); go_simp; (try with_reducible rfl))
    (try simp only [Act.put]); (try simp only [List.setIfInBounds_toArray]); (try simp only [List.set_cons_succ]); (try simp only [List.set_cons_zero])
    refine wpAnyH_take (i := 19) (v := ?v19) rfl (by kernel_rfl) (by kernel_rfl) (by kernel_rfl) (fun _ _ _ h => h) (Or.inl ⟨by rfl, ?y19⟩) (by assumption) ?r19
    case y19 => (intro w hSw; (try dsimp only at hSw); go_simp; (try with_reducible rfl))
    (try simp only [Act.put]); (try simp only [List.setIfInBounds_toArray]); (try simp only [List.set_cons_succ]); (try simp only [List.set_cons_zero])
    refine wpAnyH_ready (rs := [20]) (by kernel_rfl) (by simp) ?_
    refine AllReadyH.cons (o := { dst := none, op := Op.store 44 (Operand.tmp 33) (Operand.tmp 31), type := 0, pos := "view.go:123", after := #[{ on := 19, ground := Ground.data }, { on := 17, ground := Ground.data }, { on := 17, ground := Ground.chain }, { on := 0, ground := Ground.phase }, { on := 1, ground := Ground.phase }, { on := 2, ground := Ground.phase }, { on := 3, ground := Ground.phase }, { on := 4, ground := Ground.phase }, { on := 5, ground := Ground.phase }, { on := 6, ground := Ground.phase }, { on := 7, ground := Ground.phase }, { on := 8, ground := Ground.phase }, { on := 9, ground := Ground.phase }, { on := 10, ground := Ground.phase }, { on := 11, ground := Ground.phase }, { on := 12, ground := Ground.phase }, { on := 13, ground := Ground.phase }, { on := 14, ground := Ground.phase }, { on := 15, ground := Ground.phase }, { on := 16, ground := Ground.phase }, { on := 17, ground := Ground.phase }], guard := none }) rfl (fun K hK => ?_) AllReadyH.nil
    go_simp
    refine hK.out _ _ (e3 _) (fun hHeld => ?_)
    clear hK K
    (try simp only [Act.put]); (try simp only [List.setIfInBounds_toArray]); (try simp only [List.set_cons_succ]); (try simp only [List.set_cons_zero])
    refine wpAnyH_done (by kernel_rfl) ?_ _
    go_wp2
    go_end0
    exact ⟨rfl, WatchDone.from HK.out DD.out⟩
  · refine wpAnyH_ready (rs := [17]) (by kernel_rfl) (by simp) ?_
    refine AllReadyH.cons (o := { dst := some 31, op := Op.call { callee := Callee.builtin Builtin.append, args := #[Operand.tmp 20, Operand.tmp 30], argTypes := #[44, 44] }, type := 44, pos := "view.go:123", after := #[{ on := 6, ground := Ground.data }, { on := 16, ground := Ground.data }], guard := none }) rfl (fun K hK => ?_) AllReadyH.nil
    refine step_append_anyN _ rfl (.tmp 20) (.tmp 30) 44 44 rfl 50 (.agg #[.int .i64 0, .int .i64 0]) 2 16 Try.underlying44 info50 rfl _ _ _ rfl (own2_alloc_drew HF.out.2.1 _) _ _ _ rfl (src_read W _ _) (by omega) (by omega) ?_
    intro v' w1 hown' hgrow hblk
    obtain ⟨ao', cap', rfl⟩ := own2_form hown'
    obtain ⟨c1, f1, D⟩ := WatchForm.grown HF.out (Keeps.none_alloc_drew' W _) [(place + a, place + b)] hown' (by simp) (by rw [readCells_append]) hgrow hblk
    have DD : Hid (WatchDone W _ q gq (rs ++ [(place + a, place + b)])) := D
    have e1 : w1.cell? ⟨w.heap.size, 1, none⟩ = some (.int .i64 place) := hgrow.cell (a := ⟨w.heap.size, 1, none⟩) (a1 _) HNE.out
    have e2 : w1.cell? ⟨w.heap.size, 2, none⟩ = some (.pointer (some ⟨q, 0, none⟩)) := hgrow.cell (a := ⟨w.heap.size, 2, none⟩) (a2 _) HNE.out
    have e3 : ∀ u, (w1.setCell ⟨q, 0, none⟩ u).cell? ⟨w.heap.size, 1, none⟩ = some (.int .i64 place) ∧ (w1.setCell ⟨q, 0, none⟩ u).cell? ⟨w.heap.size, 2, none⟩ = some (.pointer (some ⟨q, 0, none⟩)) := fun u => ⟨(cell_setCell_far w1 hqn u 0 1).trans e1, (cell_setCell_far w1 hqn u 0 2).trans e2⟩
    clear D hown' hgrow hblk
    refine hK.out _ _ ⟨e1, e2⟩ (fun hHeld => ?_)
    clear hK K
    (try simp only [Act.put]); (try simp only [List.setIfInBounds_toArray]); (try simp only [List.set_cons_succ]); (try simp only [List.set_cons_zero])
    refine wpAnyH_take (i := 18) (v := ?v18b) rfl (by kernel_rfl) (by kernel_rfl) (by kernel_rfl) (fun _ _ _ h => h) (Or.inl ⟨by rfl, ?y18b⟩) (by assumption) ?r18b
    case y18b => (intro w hSw; (try dsimp only at hSw); go_simp; (try with_reducible rfl))
    (try simp only [Act.put]); (try simp only [List.setIfInBounds_toArray]); (try simp only [List.set_cons_succ]); (try simp only [List.set_cons_zero])
    refine wpAnyH_take (i := 19) (v := ?v19b) rfl (by kernel_rfl) (by kernel_rfl) (by kernel_rfl) (fun _ _ _ h => h) (Or.inl ⟨by rfl, ?y19b⟩) (by assumption) ?r19b
    case y19b => (intro w hSw; (try dsimp only at hSw); go_simp; (try with_reducible rfl))
    (try simp only [Act.put]); (try simp only [List.setIfInBounds_toArray]); (try simp only [List.set_cons_succ]); (try simp only [List.set_cons_zero])
    refine wpAnyH_ready (rs := [20]) (by kernel_rfl) (by simp) ?_
    refine AllReadyH.cons (o := { dst := none, op := Op.store 44 (Operand.tmp 33) (Operand.tmp 31), type := 0, pos := "view.go:123", after := #[{ on := 19, ground := Ground.data }, { on := 17, ground := Ground.data }, { on := 17, ground := Ground.chain }, { on := 0, ground := Ground.phase }, { on := 1, ground := Ground.phase }, { on := 2, ground := Ground.phase }, { on := 3, ground := Ground.phase }, { on := 4, ground := Ground.phase }, { on := 5, ground := Ground.phase }, { on := 6, ground := Ground.phase }, { on := 7, ground := Ground.phase }, { on := 8, ground := Ground.phase }, { on := 9, ground := Ground.phase }, { on := 10, ground := Ground.phase }, { on := 11, ground := Ground.phase }, { on := 12, ground := Ground.phase }, { on := 13, ground := Ground.phase }, { on := 14, ground := Ground.phase }, { on := 15, ground := Ground.phase }, { on := 16, ground := Ground.phase }, { on := 17, ground := Ground.phase }], guard := none }) rfl (fun K hK => ?_) AllReadyH.nil
    go_simp
    refine hK.out _ _ (e3 _) (fun hHeld => ?_)
    clear hK K
    (try simp only [Act.put]); (try simp only [List.setIfInBounds_toArray]); (try simp only [List.set_cons_succ]); (try simp only [List.set_cons_zero])
    refine wpAnyH_done (by kernel_rfl) ?_ _
    go_wp2
    go_end0
    exact ⟨rfl, WatchDone.from HK.out DD.out⟩
end Go.Proofs.Ytomlndoffoeaiaa.Kit
