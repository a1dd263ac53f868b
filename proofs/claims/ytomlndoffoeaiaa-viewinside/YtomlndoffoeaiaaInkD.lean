import Derived.Test.YtomlndoffoeaiaaInkC
namespace Go.Proofs.Ytomlndoffoeaiaa.Kit
open Go.RowKit Go.Deep

theorem wide_any (n : Int) (w : World) : Calls Try.prog 55 #[.int .i64 n] w fun e w' => e = .returned (.bool (wideB n)) ∧ w = w' := by
  by_cases h1 : n = 1
  · subst h1; go_enter Try.func55, Try.ntmps55; go_wp2; go_ret; exact ⟨rfl, rfl⟩
  by_cases h2 : n = 2
  · subst h2; go_enter Try.func55, Try.ntmps55; go_wp2; go_ret; exact ⟨rfl, rfl⟩
  by_cases h4 : n = 4
  · subst h4; go_enter Try.func55, Try.ntmps55; go_wp2; go_ret; exact ⟨rfl, rfl⟩
  by_cases h8 : n = 8
  · subst h8; go_enter Try.func55, Try.ntmps55; go_wp2; go_ret; exact ⟨rfl, rfl⟩
  have g1 : (n == 1) = false := by simpa using h1
  have g2 : (n == 2) = false := by simpa using h2
  have g4 : (n == 4) = false := by simpa using h4
  have g8 : (n == 8) = false := by simpa using h8
  have e : Hid (false = wideB n) := by show _ = _; simp [wideB, g1, g2, g4, g8]
  go_enter Try.func55, Try.ntmps55; go_wp2; go_ret; exact ⟨ret_bool e.out, rfl⟩

set_option maxRecDepth 100000 in
set_option maxHeartbeats 400000 in
theorem lay_all (p : Nat) (go : Option Nat) (most : Int) (bs : List Int) (s : ByteArray) (w : World) (hI : InkAt w 117 p go most bs) (hok : InkOk most bs) (hs : s.size ≤ 9223372036854775807) :
    Calls Try.prog 56 #[.pointer (some ⟨p, 0, none⟩), .string s] w fun e w' => e = .returned (.int .i64 (textR most bs s).1) ∧ InkDone w w' 117 p go most (textR most bs s).2 := by
  obtain ⟨h1, h2, h3⟩ := hok
  unfold textR
  split
  · rename_i hgt
    obtain ⟨ao, cap, HF, h0, h1', hf⟩ := hI.open
    have HI : Hid (InkAt w 117 p go most bs) := hI
    have hd : most - (bs.length : Int) < (s.size : Int) := by omega
    clear hI hgt
    go_enter Try.func56, Try.ntmps56
    go_wp2
    go_quiet (fail)
    go_wp2
    go_ret
    exact ⟨rfl, InkDone.same HI.out _⟩
  · rename_i hle
    obtain ⟨ao, cap, HF, h0, h1', hf⟩ := hI.open
    have hd : ¬ most - (bs.length : Int) < (s.size : Int) := by omega
    have hd2 : (s.size : Int) ≤ most - (bs.length : Int) := by omega
    clear hI hle
    go_enter Try.func56, Try.ntmps56
    go_wp2
    go_quiet (fail)
    go_wp2_with (first | (at_builtin; refine wpList_append_any _ rfl (.tmp 22) (.tmp 23) 22 9 rfl 5 (.int .u8 0) 1 Try.underlying22 info5 rfl _ _ _ rfl (show World.ownsRow _ 0 5 1 _ _ _ from HF.out.2.1) _ _ _ rfl (Src.ofString _ Try.underlying9 s) ?h63 ?hby ?_))
    case h63 => omega
    case hby => omega
    intro v' w1 hown' hgrow hblk
    obtain ⟨ao', cap', rfl⟩ := own_form hown'
    obtain ⟨c1, f1, D⟩ := InkForm.grown HF.out (by decide) ((Keeps.refl w _).drewN _) (bytesOf s) hown' (by simp [bytesOf_length]) (by simp [bytesOf_cells]) hgrow hblk
    have DD : Hid (InkDone w _ 117 p go most (bs ++ bytesOf s)) := D
    clear D hown' hgrow hblk
    go_wp2
    go_ret
    exact ⟨rfl, DD.out⟩

theorem rtext_all (p : Nat) (go : Option Nat) (most : Int) (bs : List Int) (s : ByteArray) (w : World) (hI : InkAt w 117 p go most bs) (hok : InkOk most bs) (hs : s.size ≤ 9223372036854775807) :
    Calls Try.prog 27 #[.pointer (some ⟨p, 0, none⟩), .string s] w fun e w' => e = .returned (.int .i64 (textR most bs s).1) ∧ InkDone w w' 117 p go most (textR most bs s).2 := by
  have H : Hid (InkAt w 117 p go most bs ∧ InkOk most bs) := ⟨hI, hok⟩
  clear hI hok
  go_enter Try.func27, Try.ntmps27
  go_wp2_with (first | (go_at_call 56; refine (lay_all p go most bs s _ H.out.1 H.out.2 hs).mono ?_; rintro e w' ⟨rfl, D⟩))
  go_ret
  exact ⟨rfl, D⟩

set_option maxRecDepth 100000 in
set_option maxHeartbeats 1000000 in
theorem rfill_yes (p : Nat) (go : Option Nat) (most : Int) (bs : List Int) (n : Nat) (b : Int) (w : World) (hI : InkAt w 117 p go most bs) (hm : 0 ≤ most) (hm' : most ≤ 16777216) (hfit : (bs.length : Int) + n ≤ most) :
    Calls Try.prog 29 #[.pointer (some ⟨p, 0, none⟩), .int .i64 n, .int .u8 b] w fun e w' => e = .returned (.int .i64 0) ∧ InkDone w w' 117 p go most (bs ++ List.replicate n b) := by
  obtain ⟨ao, cap, HF, h0, h1, hf⟩ := hI.open
  have hd : ¬ most - (bs.length : Int) < (n : Int) := by omega
  have hd2 : (n : Int) ≤ most - (bs.length : Int) := by omega
  have HI : Hid (InkAt w 117 p go most bs) := hI
  clear hI
  go_enter Try.func29, Try.ntmps29
  go_wp2
  go_quiet (fail)
  go_wp2
  go_loopw [7] (fun i wr => ∃ k : Nat, k ≤ n ∧ i = .int .i64 k ∧ Hid (InkDone w wr 117 p go most (bs ++ List.replicate k b))) (fun i _ => n - (intOf i).toNat)
  case atStart => exact ⟨0, Nat.zero_le _, rfl, by have := InkDone.same HI.out nq; show InkDone _ _ _ _ _ _ _; simpa using this⟩
  case round =>
    clear h0 h1 hf hd HF HI
    obtain ⟨k, hk, rfl, HD⟩ := hrel
    by_cases hlt : k < n
    · obtain ⟨go1, i1, k1, g1⟩ := HD.out
      have HK : Hid (Keeps w wr (fun k => k = p ∨ go = some k) ∧ (go1 = go ∨ ∀ g, go1 = some g → w.heap.size ≤ g)) := ⟨k1, g1⟩
      obtain ⟨L, hL⟩ : ∃ L, L = bs ++ List.replicate k b := ⟨_, rfl⟩
      rw [← hL] at i1
      have hNb : (L.length : Int) + (n - k) ≤ most := by rw [hL]; simp; omega
      have HL : Hid (L = bs ++ List.replicate k b) := hL
      obtain ⟨ao, cap, HF, h0, h1, hf⟩ := i1.open
      have h0a : ∀ o, (wr.alloc o).cell? ⟨p, 0, none⟩ = some (.slice ao L.length cap) := fun o => (((Keeps.refl wr (fun _ => False)).alloc o).cell i1.lt.1 id).trans h0
      clear i1 k1 g1 HD hL
      go_wp2_with (first | (at_builtin; refine wpList_append_any _ rfl (.tmp 31) (.tmp 33) 22 22 rfl 5 (.int .u8 0) 1 Try.underlying22 info5 rfl _ _ _ rfl (HF.out.2.1.alloc _) _ _ _ rfl (src_one wr _ rfl) ?h63 ?hby ?_))
      case h63 => omega
      case hby => omega
      intro v' w1 hown' hgrow hblk
      obtain ⟨ao', cap', rfl⟩ := own_form hown'
      obtain ⟨c1, f1, D⟩ := InkForm.grown HF.out (by decide) (Keeps.none_alloc wr _) [b] hown' (by simp) (by simp) hgrow (by simpa using hblk)
      have DD : Hid (InkDone wr _ 117 p go1 most (L ++ [b])) := D
      clear D hown' hgrow hblk
      go_wp2
      go_roundw
      case rel =>
        refine ⟨k + 1, by omega, by go_num, ?_⟩
        show InkDone _ _ _ _ _ _ _
        have e : bs ++ List.replicate (k + 1) b = L ++ [b] := by rw [List.replicate_succ', HL.out]; simp
        rw [e]
        exact InkDone.trans HK.out.1 HK.out.2 DD.out
      case measure => simp [intOf]; omega
    · obtain rfl : k = n := by omega
      go_wp2
      go_ret
      exact ⟨rfl, HD.out⟩

theorem rfill_all (p : Nat) (go : Option Nat) (most : Int) (bs : List Int) (n b : Int) (w : World) (hI : InkAt w 117 p go most bs) (hok : InkOk most bs) :
    Calls Try.prog 29 #[.pointer (some ⟨p, 0, none⟩), .int .i64 n, .int .u8 b] w fun e w' => e = .returned (.int .i64 (fillR most bs n b).1) ∧ InkDone w w' 117 p go most (fillR most bs n b).2 := by
  obtain ⟨h1, h2, h3⟩ := hok
  unfold fillR
  split
  · rename_i h
    have HI : Hid (InkAt w 117 p go most bs) := hI
    clear hI
    go_enter Try.func29, Try.ntmps29
    go_wp2
    go_ret
    exact ⟨rfl, InkDone.refl HI.out⟩
  · split
    · rename_i hn hgt
      obtain ⟨ao, cap, HF, h0, h1', hf⟩ := hI.open
      have HI : Hid (InkAt w 117 p go most bs) := hI
      have hd : most - (bs.length : Int) < n := by omega
      clear hI hgt
      go_enter Try.func29, Try.ntmps29
      go_wp2
      go_quiet (fail)
      go_wp2
      go_ret
      exact ⟨rfl, InkDone.same HI.out _⟩
    · obtain ⟨k, rfl⟩ : ∃ k : Nat, n = k := ⟨n.toNat, by omega⟩
      exact rfill_yes p go most bs k b w hI h1 h2 (by omega)
end Go.Proofs.Ytomlndoffoeaiaa.Kit
