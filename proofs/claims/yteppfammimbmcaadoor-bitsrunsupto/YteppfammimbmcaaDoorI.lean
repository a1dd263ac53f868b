import Derived.Test.YteppfammimbmcaaDoorC
namespace Go.Proofs.YteppfammimbmcaaDoor.Kit
open Go.RowKit Go.Deep

theorem New.form {w w' : World} {t : Nat} {v : Value} {xs : List Value} (h : New w w' t v xs) : ∃ ao cap, v = .slice ao xs.length cap := by
  rcases h.1.2 with ⟨rfl, h0⟩ | ⟨g, cap, cur, rfl, _⟩
  · exact ⟨none, 0, by rw [h0]⟩
  · exact ⟨_, _, rfl⟩
theorem New.own {w w' : World} {t : Nat} {v : Value} {xs : List Value} (h : New w w' t v xs) {n : Nat} (hn : xs.length = n) : w'.ownsRow 0 t 1 v n xs := by rw [← hn]; exact h.1
theorem own_kept {w w' : World} {t s : Nat} {v : Value} {n : Nat} {xs : List Value} {S : Nat → Prop} (h : w.ownsRow 0 t s v n xs) (k : Keeps w w' S) (hS : ∀ g, v.ownBlock = some g → ¬ S g) : w'.ownsRow 0 t s v n xs := by
  refine ⟨h.1, ?_⟩
  rcases h.2 with hn | ⟨g, cap, cur, rfl, hb', hgg, rest⟩
  · exact .inl hn
  · refine .inr ⟨g, cap, cur, rfl, hb', ?_, rest⟩
    rw [k.block g (Array.getElem?_eq_some_iff.1 hgg).1 (hS g rfl)]
    exact hgg
theorem New.kept {w wr w' : World} {t : Nat} {v : Value} {xs : List Value} (h : New w wr t v xs) (k : Keeps wr w' (fun _ => False)) : New w w' t v xs :=
  ⟨own_kept h.1 k fun _ _ => id, h.2.1, h.2.2.trans k fun _ _ h => h⟩
theorem New.nil (w : World) (t : Nat) : New w w t (.slice none 0 0) [] := ⟨World.ownsRow_nil w 0 t 1, fun g h => by simp [Value.ownBlock] at h, Keeps.refl _ _⟩
theorem New.empty (w : World) (t : Nat) : New w (w.alloc (.cells #[] t)) t (.slice (some ⟨w.heap.size, 0, none⟩) 0 0) [] :=
  ⟨⟨rfl, .inr ⟨w.heap.size, 0, #[], rfl, Nat.zero_le _, heap_alloc_new w _, Nat.le_refl _, Nat.zero_le _, rfl, rfl⟩⟩, fun g h => by simp [Value.ownBlock] at h; omega, (Keeps.refl _ _).alloc _⟩
/-- behind an append -/
theorem New.step {w wr W w1 : World} {t : Nat} {v v' : Value} {xs ys : List Value} {n' : Nat} (h : New w wr t v xs) (hW : Keeps wr W (fun _ => False)) (hown' : w1.ownsRow 0 t 1 v' n' ys) (hn : ys.length = n') (hgrow : W.grownBy w1 v.ownBlock)
    (hblk : v'.ownBlock = v.ownBlock ∨ ∀ g, v'.ownBlock = some g → W.heap.size ≤ g) : New w w1 t v' ys := by
  refine ⟨by rw [hn]; exact hown', fun g hg => ?_, ?_⟩
  · rcases hblk with e | e
    · exact h.2.1 g (e.symm.trans hg)
    · have := e g hg; have := h.2.2.size; have := hW.size; omega
  · exact (h.2.2.trans hW fun _ _ h => h).trans (Keeps.ofGrown hgrow) fun j hj e => by have := h.2.1 j e; omega
theorem src_bool (w : World) (u : Value) (hu : u.oneCell' = true) : Src Tryd.prog 1 25 (.slice (some ⟨w.heap.size, 0, none⟩) 1 1) 1 [u] (w.alloc (.cells #[u] 4)) := by
  refine Src.ofSlice _ Tryd.underlying25 _ _ _ _ (by simp) ?_ (by simpa using hu)
  intro j v hj
  match j, hj with
  | 0, hj => simp at hj; subst hj; simp [Addr.add]
theorem src_bool_drew (w : World) (u : Value) (hu : u.oneCell' = true) : Src Tryd.prog 1 25 (.slice (some ⟨w.heap.size, 0, none⟩) 1 1) 1 [u] (w.alloc (.cells #[u] 4)).drew := by
  refine Src.ofSlice _ Tryd.underlying25 _ _ _ _ (by simp) ?_ (by simpa using hu)
  intro j v hj
  match j, hj with
  | 0, hj => simp at hj; subst hj; simp [Addr.add]
theorem Keeps.none_alloc (w : World) (o : Obj) : Keeps w (w.alloc o) (fun _ => False) := (Keeps.refl w _).alloc o
theorem Keeps.none_alloc_drew (w : World) (o : Obj) : Keeps w (w.alloc o).drew (fun _ => False) := ((Keeps.refl w _).alloc o).drew
theorem own_form {w : World} {t s : Nat} {v : Value} {n : Nat} {xs : List Value} (h : w.ownsRow 0 t s v n xs) : ∃ ao cap, v = .slice ao n cap := by
  rcases h.2 with ⟨rfl, h0⟩ | ⟨g, cap, cur, rfl, _⟩
  · exact ⟨none, 0, by rw [h0]⟩
  · exact ⟨_, _, rfl⟩

/-! ### the document's -/
theorem rneed_neg (m : Int) (h : m < 0) (w : World) : Calls Tryd.prog 41 #[.int .i64 m] w fun e w' => e = .returned (.int .i64 0) ∧ w = w' := by
  go_enter Tryd.func41, Tryd.ntmps41
  go_wp2
  all_goals first | (go_ret; exact ⟨rfl, rfl⟩) | (exfalso; simp at *; omega)
theorem rneed_pos (m : Nat) (h : m ≤ 9223372036854775807) (w : World) : Calls Tryd.prog 41 #[.int .i64 m] w fun e w' => e = .returned (.int .i64 (need m : Nat)) ∧ w = w' := by
  by_cases h0 : m % 8 = 0
  · have h0' : (m : Int) % 8 = 0 := by omega
    go_enter Tryd.func41, Tryd.ntmps41
    go_wp2
    all_goals first | (go_ret; exact ⟨by simp [need]; omega, rfl⟩) | (exfalso; simp at *; omega)
  · have h0' : ¬ (m : Int) % 8 = 0 := by omega
    go_enter Tryd.func41, Tryd.ntmps41
    go_wp2
    all_goals first | (go_ret; exact ⟨by simp [need]; omega, rfl⟩) | (exfalso; simp at *; omega)
theorem there_neg (ao : Option Addr) (n ca : Nat) (fr m : Int) (w : World) (h : fr < 0 ∨ m < 0) :
    Calls Tryd.prog 55 #[.slice ao n ca, .int .i64 fr, .int .i64 m] w fun e w' => e = .returned (.int .i64 1) ∧ w = w' := by
  go_enter Tryd.func55, Tryd.ntmps55
  go_wp2
  all_goals first | (go_ret; exact ⟨rfl, rfl⟩) | (exfalso; simp at *; omega)
theorem there_ok (ao : Option Addr) (n ca : Nat) (hn : n ≤ 1152921504606846975) (fr m : Nat) (h : fr + m ≤ 8 * n) (w : World) :
    Calls Tryd.prog 55 #[.slice ao n ca, .int .i64 fr, .int .i64 m] w fun e w' => e = .returned (.int .i64 0) ∧ w = w' := by
  go_enter Tryd.func55, Tryd.ntmps55
  go_wp2
  all_goals first | (go_ret; exact ⟨rfl, rfl⟩) | (exfalso; simp at *; omega)
theorem there_range (ao : Option Addr) (n ca : Nat) (hn : n ≤ 1152921504606846975) (fr m : Nat) (hfr : fr ≤ 9223372036854775807) (hm : m ≤ 9223372036854775807) (h : 8 * n < fr + m) (w : World) :
    Calls Tryd.prog 55 #[.slice ao n ca, .int .i64 fr, .int .i64 m] w fun e w' => e = .returned (.int .i64 2) ∧ w = w' := by
  go_enter Tryd.func55, Tryd.ntmps55
  go_wp2
  all_goals first | (go_ret; exact ⟨rfl, rfl⟩) | (exfalso; simp at *; omega)

theorem odd_eq (y : Nat) : ((y : Int) % 2 == 1) = decide (y % 2 = 1) := by rw [Bool.eq_iff_iff]; simp; omega
theorem rbit_any (ao : Option Addr) (ca : Nat) (l : List Nat) (hl : Bytes l) (hn : l.length ≤ 1152921504606846976) (i : Nat) (hi : i < 8 * l.length) (w : World) (hb : BytesAt w ao l) :
    Calls Tryd.prog 56 #[.slice ao l.length ca, .int .i64 i] w fun e w' => e = .returned (.bool (bitAt l i)) ∧ w = w' := by
  obtain ⟨b, off, rfl, hcs⟩ := hb (by omega)
  have hc := hcs (i / 8) (by omega)
  have hx := hl.get (i / 8)
  have e' : bitAt l i = (l.getD (i / 8) 0).testBit (i % 8) := rfl
  rw [Nat.testBit_eq_decide_div_mod_eq] at e'
  obtain ⟨x, hx'⟩ : ∃ x, x = l.getD (i / 8) 0 := ⟨_, rfl⟩
  rw [← hx'] at hc hx e'
  rw [e']
  have h8 : i / 8 < l.length := by omega
  clear hcs hx' e' hb hl
  go_enter Tryd.func56, Tryd.ntmps56
  go_wp2
  go_loop [5, 6] (fun v k => ∃ j : Nat, j ≤ i % 8 ∧ v = .int .i64 (x / 2 ^ j : Nat) ∧ k = .int .i64 j) (fun _ k => i % 8 - (intOf k).toNat)
  case atStart => exact ⟨0, by omega, by simp, rfl⟩
  case round =>
    obtain ⟨j, hj, rfl, rfl⟩ := hrel
    have hdv : x / 2 ^ j ≤ x := Nat.div_le_self _ _
    have hnext : x / 2 ^ (j + 1) = x / 2 ^ j / 2 := by rw [Nat.pow_succ, Nat.div_div_eq_div_mul]
    by_cases hlt : j < i % 8
    · have hlt' : (j : Int) < (i : Int) % 8 := by omega
      generalize x / 2 ^ j = y at *
      go_wp2
      go_round
      case rel => exact ⟨j + 1, by omega, by rw [hnext]; simp, by go_num⟩
      case measure => simp [intOf]; omega
    · obtain rfl : j = i % 8 := by omega
      obtain ⟨y, hy⟩ : ∃ y, y = x / 2 ^ (i % 8) := ⟨_, rfl⟩
      rw [← hy] at hdv ⊢
      have HY : Hid (x / 2 ^ (i % 8) = y) := hy.symm
      clear hy hnext
      go_wp2
      go_ret
      exact ⟨by rw [HY.out, ← odd_eq]; rfl, rfl⟩

theorem rget_neg (ao : Option Addr) (n ca : Nat) (i : Int) (h : i < 0) (w : World) :
    Calls Tryd.prog 32 #[.slice ao n ca, .int .i64 i] w fun e w' => e = .returned (.tuple #[.bool false, .int .i64 1]) ∧ w = w' := by
  go_enter Tryd.func32, Tryd.ntmps32
  go_wp2_with (go_at_call 55; refine (there_neg ao n ca i 1 _ (.inl h)).mono ?_; rintro e w' ⟨rfl, rfl⟩)
  go_ret2
  exact ⟨rfl, rfl⟩
theorem rget_range (ao : Option Addr) (n ca : Nat) (hn : n ≤ 1152921504606846975) (i : Nat) (hi : i ≤ 9223372036854775807) (h : 8 * n ≤ i) (w : World) :
    Calls Tryd.prog 32 #[.slice ao n ca, .int .i64 i] w fun e w' => e = .returned (.tuple #[.bool false, .int .i64 2]) ∧ w = w' := by
  go_enter Tryd.func32, Tryd.ntmps32
  go_wp2_with (go_at_call 55; refine (there_range ao n ca hn i 1 hi (by omega) (by omega) _).mono ?_; rintro e w' ⟨rfl, rfl⟩)
  go_ret2
  exact ⟨rfl, rfl⟩
theorem rget_ok (ao : Option Addr) (ca : Nat) (l : List Nat) (hl : Bytes l) (hn : l.length ≤ 1152921504606846) (i : Nat) (h : i < 8 * l.length) (w : World) (hb : BytesAt w ao l) :
    Calls Tryd.prog 32 #[.slice ao l.length ca, .int .i64 i] w fun e w' => e = .returned (.tuple #[.bool (bitAt l i), .int .i64 0]) ∧ w = w' := by
  go_enter Tryd.func32, Tryd.ntmps32
  go_wp2_with (first | (go_at_call 55; refine (there_ok ao l.length ca (by omega) i 1 (by omega) _).mono ?_; rintro e w' ⟨rfl, rfl⟩) | (go_at_call 56; refine (rbit_any _ ca l hl (by omega) i (by omega) _ hb).mono ?_; rintro e w' ⟨rfl, rfl⟩))
  go_ret2
  exact ⟨rfl, rfl⟩
theorem rlist_neg (ao : Option Addr) (n ca : Nat) (fr m : Int) (h : fr < 0 ∨ m < 0) (w : World) :
    Calls Tryd.prog 35 #[.slice ao n ca, .int .i64 fr, .int .i64 m] w fun e w' => e = .returned (.tuple #[.slice none 0 0, .int .i64 1]) ∧ w = w' := by
  go_enter Tryd.func35, Tryd.ntmps35
  go_wp2_with (go_at_call 55; refine (there_neg ao n ca fr m _ h).mono ?_; rintro e w' ⟨rfl, rfl⟩)
  go_ret2
  exact ⟨rfl, rfl⟩
theorem rlist_range (ao : Option Addr) (n ca : Nat) (hn : n ≤ 1152921504606846975) (fr m : Nat) (hfr : fr ≤ 9223372036854775807) (hm : m ≤ 9223372036854775807) (h : 8 * n < fr + m) (w : World) :
    Calls Tryd.prog 35 #[.slice ao n ca, .int .i64 fr, .int .i64 m] w fun e w' => e = .returned (.tuple #[.slice none 0 0, .int .i64 2]) ∧ w = w' := by
  go_enter Tryd.func35, Tryd.ntmps35
  go_wp2_with (go_at_call 55; refine (there_range ao n ca hn fr m hfr hm h _).mono ?_; rintro e w' ⟨rfl, rfl⟩)
  go_ret2
  exact ⟨rfl, rfl⟩
theorem bools_succ (f : Nat → Bool) (fr n : Nat) : bools f fr (n + 1) = bools f fr n ++ [.bool (f (fr + n))] := by simp [bools, List.range_succ]
set_option maxRecDepth 100000 in
set_option maxHeartbeats 1000000 in
theorem rlist_ok (ao : Option Addr) (ca : Nat) (l : List Nat) (hl : Bytes l) (hn : l.length ≤ 10000000) (fr m : Nat) (h : fr + m ≤ 8 * l.length) (w : World) (hb : BytesAt w ao l) :
    Calls Tryd.prog 35 #[.slice ao l.length ca, .int .i64 fr, .int .i64 m] w fun e w' => ∃ v, e = .returned (.tuple #[v, .int .i64 0]) ∧ New w w' 4 v (bools (bitAt l) fr m) := by
  go_enter Tryd.func35, Tryd.ntmps35
  go_wp2_with (go_at_call 55; refine (there_ok ao l.length ca (by omega) fr m h _).mono ?_; rintro e w' ⟨rfl, rfl⟩)
  have HN : Hid (New w (w.alloc (.cells #[] 4)) 4 (.slice (some ⟨w.heap.size, 0, none⟩) 0 0) (bools (bitAt l) fr 0)) := New.empty w 4
  go_loopw [9, 10] (fun v i wr => ∃ (k : Nat) (ao1 : Option Addr) (cap : Nat), k ≤ m ∧ i = .int .i64 k ∧ v = .slice ao1 k cap ∧ Hid (New w wr 4 (.slice ao1 k cap) (bools (bitAt l) fr k))) (fun _ i _ => m - (intOf i).toNat)
  case atStart => exact ⟨0, _, _, by omega, rfl, rfl, HN⟩
  case round =>
    clear HN
    obtain ⟨k, ao1, cap, hk, rfl, rfl, HN⟩ := hrel
    by_cases hlt : k < m
    · have hb' : BytesAt wr ao l := hb.kept0 HN.out.2.2
      clear hb
      go_wp2_with (first | (go_at_call 56; refine (rbit_any _ ca l hl (by omega) (fr + k) (by omega) _ hb').mono ?_; rintro e w' ⟨rfl, rfl⟩) | (at_builtin; refine wpList_append_any _ rfl (.tmp 24) (.tmp 30) 25 25 rfl 4 (.bool false) 1 Tryd.underlying25 info4 rfl _ _ _ rfl ((HN.out.own (bools_length _ _ _)).alloc _) _ _ _ rfl (src_bool wr _ rfl) ?h63 ?hby ?_))
      case h63 => omega
      case hby => omega
      intro v' w1 hown' hgrow hblk
      obtain ⟨ao', cap', rfl⟩ := own_form hown'
      have HN' : Hid (New w w1 4 (.slice ao' (k + 1) cap') (bools (bitAt l) fr (k + 1))) := by
        rw [← bools_succ] at hown'
        exact HN.out.step (Keeps.none_alloc wr _) hown' (bools_length _ _ _) hgrow (by simpa using hblk)
      clear hown' hgrow hblk HN
      go_wp2
      go_roundw
      case rel => exact ⟨k + 1, ao', cap', by omega, by go_num, rfl, HN'⟩
      case measure => simp [intOf]; omega
    · obtain rfl : k = m := by omega
      clear hb
      go_wp2
      go_ret2
      exact ⟨_, rfl, HN.out⟩
end Go.Proofs.YteppfammimbmcaaDoor.Kit
