import Derived.Test.YtomlndoffoeaiaaInkC
namespace Go.Proofs.Ytomlndoffoeaiaa.Kit
open Go.RowKit Go.Deep

theorem wide_any (n : Int) (w : World) : Calls Try.prog 55 #[.int .i64 n] w fun e w' => e = .returned (.bool (wideB n)) ∧ w = w' := by
  by_cases h1 : n = 1
  · subst h1; go_enter Try.func55, Try.ntmps55; go_wp2; go_ret; exact ⟨rfl, rfl⟩
  by_cases h2 : n = 2
  · subst h2; go_enter Try.func55, Try.ntmps55; go_wp2; go_ret; exact ⟨rfl, rfl⟩
  by_cases h4 : n = 4
  · subst h4; go_enter Try.func55, Try.ntmps55; go_wp2; go_ret; exact ⟨rfl, rfl⟩
  by_cases h8 : n = 8
  · subst h8; go_enter Try.func55, Try.ntmps55; go_wp2; go_ret; exact ⟨rfl, rfl⟩
  have g1 : (n == 1) = false := by simpa using h1
  have g2 : (n == 2) = false := by simpa using h2
  have g4 : (n == 4) = false := by simpa using h4
  have g8 : (n == 8) = false := by simpa using h8
  have e : Hid (false = wideB n) := by show _ = _; simp [wideB, g1, g2, g4, g8]
  go_enter Try.func55, Try.ntmps55; go_wp2; go_ret; exact ⟨ret_bool e.out, rfl⟩

set_option maxRecDepth 100000 in
set_option maxHeartbeats 400000 in
theorem lay_all (p : Nat) (go : Option Nat) (most : Int) (bs : List Int) (s : ByteArray) (w : World) (hI : InkAt w 117 p go most bs) (hok : InkOk most bs) (hs : s.size ≤ 9223372036854775807) :
    Calls Try.prog 56 #[.pointer (some ⟨p, 0, none⟩), .string s] w fun e w' => e = .returned (.int .i64 (textR most bs s).1) ∧ InkDone w w' 117 p go most (textR most bs s).2 := by
  obtain ⟨h1, h2, h3⟩ := hok
  unfold textR
  split
  · rename_i hgt
    obtain ⟨ao, cap, HF, h0, h1', hf⟩ := hI.open
    have HI : Hid (InkAt w 117 p go most bs) := hI
    have hd : most - (bs.length : Int) < (s.size : Int) := by omega
    clear hI hgt
    go_enter Try.func56, Try.ntmps56
    go_wp2
    go_quiet (fail)
    go_wp2
    go_ret
    exact ⟨rfl, InkDone.same HI.out _⟩
  · rename_i hle
    obtain ⟨ao, cap, HF, h0, h1', hf⟩ := hI.open
    have hd : ¬ most - (bs.length : Int) < (s.size : Int) := by omega
    have hd2 : (s.size : Int) ≤ most - (bs.length : Int) := by omega
    clear hI hle
    go_enter Try.func56, Try.ntmps56
    go_wp2
    go_quiet (fail)
    go_wp2_with (first | (at_builtin; refine wpList_append_any _ rfl (.tmp 22) (.tmp 23) 22 9 rfl 5 (.int .u8 0) 1 Try.underlying22 info5 rfl _ _ _ rfl (show World.ownsRow _ 0 5 1 _ _ _ from HF.out.2.1) _ _ _ rfl (Src.ofString _ Try.underlying9 s) ?h63 ?hby ?_))
    case h63 => omega
    case hby => omega
    intro v' w1 hown' hgrow hblk
    obtain ⟨ao', cap', rfl⟩ := own_form hown'
    obtain ⟨c1, f1, D⟩ := InkForm.grown HF.out (by decide) ((Keeps.refl w _).drewN _) (bytesOf s) hown' (by simp [bytesOf_length]) (by simp [bytesOf_cells]) hgrow hblk
    have DD : Hid (InkDone w _ 117 p go most (bs ++ bytesOf s)) := D
    clear D hown' hgrow hblk
    go_wp2
    go_ret
    exact ⟨rfl, DD.out⟩

theorem rtext_all (p : Nat) (go : Option Nat) (most : Int) (bs : List Int) (s : ByteArray) (w : World) (hI : InkAt w 117 p go most bs) (hok : InkOk most bs) (hs : s.size ≤ 9223372036854775807) :
    Calls Try.prog 27 #[.pointer (some ⟨p, 0, none⟩), .string s] w fun e w' => e = .returned (.int .i64 (textR most bs s).1) ∧ InkDone w w' 117 p go most (textR most bs s).2 := by
  have H : Hid (InkAt w 117 p go most bs ∧ InkOk most bs) := ⟨hI, hok⟩
  clear hI hok
  go_enter Try.func27, Try.ntmps27
  go_wp2_with (first | (go_at_call 56; refine (lay_all p go most bs s _ H.out.1 H.out.2 hs).mono ?_; rintro e w' ⟨rfl, D⟩))
  go_ret
  exact ⟨rfl, D⟩

set_option maxRecDepth 100000 in
set_option maxHeartbeats 1000000 in
theorem rfill_yes (p : Nat) (go : Option Nat) (most : Int) (bs : List Int) (n : Nat) (b : Int) (w : World) (hI : InkAt w 117 p go most bs) (hm : 0 ≤ most) (hm' : most ≤ 16777216) (hfit : (bs.length : Int) + n ≤ most) :
    Calls Try.prog 29 #[.pointer (some ⟨p, 0, none⟩), .int .i64 n, .int .u8 b] w fun e w' => e = .returned (.int .i64 0) ∧ InkDone w w' 117 p go most (bs ++ List.replicate n b) := by
  obtain ⟨ao, cap, HF, h0, h1, hf⟩ := hI.open
  have hd : ¬ most - (bs.length : Int) < (n : Int) := by omega
  have hd2 : (n : Int) ≤ most - (bs.length : Int) := by omega
  have HI : Hid (InkAt w 117 p go most bs) := hI
  clear hI
  go_enter Try.func29, Try.ntmps29
  go_wp2
  go_quiet (fail)
  go_wp2
  go_loopw [7] (fun i wr => ∃ k : Nat, k ≤ n ∧ i = .int .i64 k ∧ Hid (InkDone w wr 117 p go most (bs ++ List.replicate k b))) (fun i _ => n - (intOf i).toNat)
  case atStart => exact ⟨0, Nat.zero_le _, rfl, by have := InkDone.same HI.out nq; show InkDone _ _ _ _ _ _ _; simpa using this⟩
  case round =>
    clear h0 h1 hf hd HF HI
    obtain ⟨k, hk, rfl, HD⟩ := hrel
    by_cases hlt : k < n
    · obtain ⟨go1, i1, k1, g1⟩ := HD.out
      have HK : Hid (Keeps w wr (fun k => k = p ∨ go = some k) ∧ (go1 = go ∨ ∀ g, go1 = some g → w.heap.size ≤ g)) := ⟨k1, g1⟩
      obtain ⟨L, hL⟩ : ∃ L, L = bs ++ List.replicate k b := ⟨_, rfl⟩
      rw [← hL] at i1
      have hNb : (L.length : Int) + (n - k) ≤ most := by rw [hL]; simp; omega
      have HL : Hid (L = bs ++ List.replicate k b) := hL
      obtain ⟨ao, cap, HF, h0, h1, hf⟩ := i1.open
      have h0a : ∀ o, (wr.alloc o).cell? ⟨p, 0, none⟩ = some (.slice ao L.length cap) := fun o => (((Keeps.refl wr (fun _ => False)).alloc o).cell i1.lt.1 id).trans h0
      clear i1 k1 g1 HD hL
      go_wp2_with (first | (at_builtin; refine wpList_append_any _ rfl (.tmp 31) (.tmp 33) 22 22 rfl 5 (.int .u8 0) 1 Try.underlying22 info5 rfl _ _ _ rfl (HF.out.2.1.alloc _) _ _ _ rfl (src_one wr _ rfl) ?h63 ?hby ?_))
      case h63 => omega
      case hby => omega
      intro v' w1 hown' hgrow hblk
      obtain ⟨ao', cap', rfl⟩ := own_form hown'
      obtain ⟨c1, f1, D⟩ := InkForm.grown HF.out (by decide) (Keeps.none_alloc wr _) [b] hown' (by simp) (by simp) hgrow (by simpa using hblk)
      have DD : Hid (InkDone wr _ 117 p go1 most (L ++ [b])) := D
      clear D hown' hgrow hblk
      go_wp2
      go_roundw
      case rel =>
        refine ⟨k + 1, by omega, by go_num, ?_⟩
        show InkDone _ _ _ _ _ _ _
        have e : bs ++ List.replicate (k + 1) b = L ++ [b] := by rw [List.replicate_succ', HL.out]; simp
        rw [e]
        exact InkDone.trans HK.out.1 HK.out.2 DD.out
      case measure => simp [intOf]; omega
    · obtain rfl : k = n := by omega
      go_wp2
      go_ret
      exact ⟨rfl, HD.out⟩

theorem rfill_all (p : Nat) (go : Option Nat) (most : Int) (bs : List Int) (n b : Int) (w : World) (hI : InkAt w 117 p go most bs) (hok : InkOk most bs) :
    Calls Try.prog 29 #[.pointer (some ⟨p, 0, none⟩), .int .i64 n, .int .u8 b] w fun e w' => e = .returned (.int .i64 (fillR most bs n b).1) ∧ InkDone w w' 117 p go most (fillR most bs n b).2 := by
  obtain ⟨h1, h2, h3⟩ := hok
  unfold fillR
  split
  · rename_i h
    have HI : Hid (InkAt w 117 p go most bs) := hI
    clear hI
    go_enter Try.func29, Try.ntmps29
    go_wp2
    go_ret
    exact ⟨rfl, InkDone.refl HI.out⟩
  · split
    · rename_i hn hgt
      obtain ⟨ao, cap, HF, h0, h1', hf⟩ := hI.open
      have HI : Hid (InkAt w 117 p go most bs) := hI
      have hd : most - (bs.length : Int) < n := by omega
      clear hI hgt
      go_enter Try.func29, Try.ntmps29
      go_wp2
      go_quiet (fail)
      go_wp2
      go_ret
      exact ⟨rfl, InkDone.same HI.out _⟩
    · obtain ⟨k, rfl⟩ : ∃ k : Nat, n = k := ⟨n.toNat, by omega⟩
      exact rfill_yes p go most bs k b w hI h1 h2 (by omega)
end Go.Proofs.Ytomlndoffoeaiaa.Kit
namespace Go.Proofs.Ytomlndoffoeaiaa.Kit
open Go.RowKit Go.Deep

/-- bytes as a text -/
def strOf (bs : List Int) : ByteArray := bs.foldl (fun r n => r.push (UInt8.ofNat n.toNat)) ByteArray.empty
theorem foldl_push (bs : List Int) (h : ∀ b ∈ bs, 0 ≤ b ∧ b < 256) : ∀ r : ByteArray, bytesOf (bs.foldl (fun r n => r.push (UInt8.ofNat n.toNat)) r) = bytesOf r ++ bs := by
  induction bs with
  | nil => intro r; simp
  | cons b bs ih =>
    intro r
    have hb := h b (by simp)
    rw [List.foldl_cons, ih (fun c hc => h c (by simp [hc]))]
    have e : bytesOf (r.push (UInt8.ofNat b.toNat)) = bytesOf r ++ [b] := by
      simp [bytesOf, ByteArray.push]
      omega
    rw [e]; simp
theorem bytesOf_strOf (bs : List Int) (h : ∀ b ∈ bs, 0 ≤ b ∧ b < 256) : bytesOf (strOf bs) = bs := by
  rw [strOf, foldl_push bs h]; simp [bytesOf]
theorem strOf_size (bs : List Int) (h : ∀ b ∈ bs, 0 ≤ b ∧ b < 256) : (strOf bs).size = bs.length := by
  rw [← bytesOf_length, bytesOf_strOf bs h]

theorem run_convert_cells (w : World) (a : Addr) (len cap : Nat) (ns : List Int) (hl : ns.length = len) (h : ∀ j u, (ns.map (Value.int .u8))[j]? = some u → w.cell? (a.add j) = some u) :
    (convert 22 9 (.slice (some a) len cap)).run Try.prog w = .ok (.string (strOf ns)) w := by
  rw [run_convert_bytes_string w 22 9 5 _ _ _ Try.underlying22 Try.underlying5 Try.underlying9]
  refine run_bytesToString w a len cap ns ?_
  have := run_firstCells_some (P := Try.prog) w 1 len a len cap (ns.map (Value.int .u8)) (by simp [hl]) h
  simpa [Builtin.firstCells] using this

theorem run_convert_nil (w : World) (cap : Nat) : (convert 22 9 (.slice none 0 cap)).run Try.prog w = .ok (.string (strOf [])) w := by
  rw [run_convert_bytes_string w 22 9 5 _ _ _ Try.underlying22 Try.underlying5 Try.underlying9]
  simp [Conv.bytesToString, strOf]

theorem run_convert_own (w : World) (v : Value) (n : Nat) (bs : List Int) (hn : bs.length = n) (hown : w.ownsRow 0 5 1 v n (bs.map (Value.int .u8))) :
    (convert 22 9 v).run Try.prog w = .ok (.string (strOf bs)) w := by
  rcases hown.2 with ⟨rfl, h0⟩ | ⟨g, cap, cur, rfl, _⟩
  · subst h0
    obtain rfl : bs = [] := List.eq_nil_of_length_eq_zero hn
    exact run_convert_nil w 0
  · exact run_convert_cells w _ _ _ bs hn (hown.cells (g := g) rfl)

theorem leB_bytes (x : Int) (k : Nat) : ∀ b ∈ leB x k, 0 ≤ b ∧ b < 256 := by
  intro b hb
  obtain ⟨i, _, rfl⟩ := List.mem_map.1 hb
  omega

theorem div_pow_succ (x : Int) (k : Nat) : x / 256 ^ (k + 1) = x / 256 ^ k / 256 := by
  rw [Int.pow_succ, Int.ediv_ediv_of_nonneg (by exact Int.le_of_lt (Int.pow_pos (by decide)))]

set_option maxRecDepth 100000 in
set_option maxHeartbeats 1000000 in
theorem rnumber_yes (p : Nat) (go : Option Nat) (most : Int) (bs : List Int) (x : Int) (width : Nat) (w : World) (hI : InkAt w 117 p go most bs) (hok : InkOk most bs)
    (hw8 : width ≤ 8) (hx0 : 0 ≤ x) (hx1 : x < 18446744073709551616) (hwide : wideB width = true) :
    Calls Try.prog 25 #[.pointer (some ⟨p, 0, none⟩), .int .u64 x, .int .i64 width] w fun e w' => e = .returned (.int .i64 (textR most bs (strOf (leB x width))).1) ∧ InkDone w w' 117 p go most (textR most bs (strOf (leB x width))).2 := by
  have HI : Hid (InkAt w 117 p go most bs ∧ InkOk most bs) := ⟨hI, hok⟩
  clear hI hok
  go_enter Try.func25, Try.ntmps25
  go_wp2_with (first | (go_at_call 55; refine (wide_any _ _).mono ?_; rintro e w' ⟨rfl, rfl⟩))
  go_loopw [1, 8, 9] (fun xv v i wr => ∃ (k : Nat) (y : Int) (ao : Option Addr) (cap : Nat), k ≤ width ∧ i = .int .i64 k ∧ v = .slice ao k cap ∧ xv = .int .u64 y ∧ 0 ≤ y ∧ y < 18446744073709551616 ∧ Hid (y = x / 256 ^ k) ∧ Hid (wr.ownsRow 0 5 1 (.slice ao k cap) k ((leB x k).map (Value.int .u8))) ∧ Hid (Keeps w wr (fun _ => False) ∧ ∀ g, (Value.slice ao k cap).ownBlock = some g → w.heap.size ≤ g)) (fun _ _ i _ => width - (intOf i).toNat)
  case atStart => exact ⟨0, x, none, 0, Nat.zero_le _, rfl, rfl, rfl, hx0, hx1, (by simp : x = _), World.ownsRow_nil _ _ _ _, Keeps.refl _ _, fun g h => by simp [Value.ownBlock] at h⟩
  case round =>
    obtain ⟨k, y, ao, cap, hk, rfl, rfl, rfl, hy0, hy1, HY, HO, HK⟩ := hrel
    by_cases hlt : k < width
    · go_wp2_with (first | (at_builtin; refine wpList_append_any _ rfl (.tmp 19) (.tmp 22) 22 22 rfl 5 (.int .u8 0) 1 Try.underlying22 info5 rfl _ _ _ rfl (HO.out.alloc _) _ _ _ rfl (src_one wr _ rfl) ?h63 ?hby ?_))
      case h63 => omega
      case hby => omega
      intro v' w1 hown' hgrow hblk
      obtain ⟨ao', cap', rfl⟩ := own_form hown'
      have HK2 : Hid (Keeps w w1 (fun _ => False) ∧ ∀ g, (Value.slice ao' (k + 1) cap').ownBlock = some g → w.heap.size ≤ g) := by
        refine ⟨(HK.out.1.alloc _).trans (Keeps.ofGrown hgrow) fun j hj h => ?_, fun g hg => ?_⟩
        · have := HK.out.2 j h; omega
        · rcases hblk with h | h
          · exact HK.out.2 g (h.symm.trans hg)
          · have := h g hg; have := HK.out.1.size; omega
      have HO2 : Hid (w1.ownsRow 0 5 1 (.slice ao' (k + 1) cap') (k + 1) ((leB x (k + 1)).map (Value.int .u8))) := by
        show World.ownsRow _ _ _ _ _ _ _
        rw [leB_succ, ← HY.out, List.map_append]
        exact hown'
      clear hown' hgrow hblk
      go_wp2
      go_roundw
      case rel => exact ⟨k + 1, y / 256, ao', cap', by omega, by go_num, rfl, by go_num, by omega, by omega, (by rw [HY.out, div_pow_succ] : y / 256 = _), HO2, HK2⟩
      case measure => simp [intOf]; omega
    · obtain rfl : k = width := by omega
      have hconv := run_convert_own wr _ k (leB x k) (leB_length x k) HO.out
      go_wp2_with (first | (go_at_call 56; refine (lay_all p go most bs _ _ (HI.out.1.kept HK.out.1 id (fun _ _ => id)) HI.out.2 (by rw [strOf_size _ (leB_bytes x k), leB_length]; omega)).mono ?_; rintro e w' ⟨rfl, D⟩))
      go_ret
      exact ⟨rfl, InkDone.trans (HK.out.1.mono fun _ _ h => h.elim) (.inl rfl) D⟩

theorem textR_str (most : Int) (bs : List Int) (x : Int) (k : Nat) (hw : wideB k = true) : textR most bs (strOf (leB x k)) = numR most bs x k := by
  simp [textR, numR, hw, strOf_size _ (leB_bytes x k), leB_length, bytesOf_strOf _ (leB_bytes x k)]

theorem rnumber_all (p : Nat) (go : Option Nat) (most : Int) (bs : List Int) (x width : Int) (w : World) (hI : InkAt w 117 p go most bs) (hok : InkOk most bs) (hx0 : 0 ≤ x) (hx1 : x < 18446744073709551616) :
    Calls Try.prog 25 #[.pointer (some ⟨p, 0, none⟩), .int .u64 x, .int .i64 width] w fun e w' => e = .returned (.int .i64 (numR most bs x width).1) ∧ InkDone w w' 117 p go most (numR most bs x width).2 := by
  by_cases h : wideB width = true
  · have hw := (wideB_iff width).1 h
    obtain ⟨k, rfl⟩ : ∃ k : Nat, width = k := ⟨width.toNat, by omega⟩
    rw [← textR_str most bs x k h]
    exact rnumber_yes p go most bs x k w hI hok (by omega) hx0 hx1 h
  · have h : wideB width = false := by simpa using h
    have HI : Hid (InkAt w 117 p go most bs) := hI
    simp only [numR, h, if_true]
    clear hI
    go_enter Try.func25, Try.ntmps25
    go_wp2_with (first | (go_at_call 55; refine (wide_any _ _).mono ?_; rintro e w' ⟨rfl, rfl⟩))
    go_ret
    exact ⟨rfl, InkDone.refl HI.out⟩

theorem pad_zero (len to : Int) (k : Nat) (h1 : 1 ≤ to) (hk : (k : Int) ≤ -(len % to) % to) : (len + k) % to = 0 ↔ (k : Int) = -(len % to) % to := by
  have a1 := Int.emod_nonneg len (show to ≠ 0 by omega)
  have a2 := Int.emod_lt_of_pos len (show 0 < to by omega)
  have e : (len + k) % to = (len % to + k) % to := by rw [Int.emod_add_emod]
  rw [e]
  generalize len % to = r at *
  by_cases hr : r = 0
  · subst hr
    have : -(0 : Int) % to = 0 := by simp
    rw [this] at hk ⊢
    have hk0 : (k : Int) = 0 := by omega
    simp [hk0]
  · have e2 : -r % to = to - r := by
      have : -r % to = (to - r) % to := by rw [Int.sub_eq_add_neg, Int.add_emod_left]
      rw [this, Int.emod_eq_of_lt (by omega) (by omega)]
    rw [e2] at hk ⊢
    constructor
    · intro h
      have h3 : r + k < to ∨ r + k = to := by omega
      rcases h3 with h3 | h3
      · rw [Int.emod_eq_of_lt (by omega) h3] at h; omega
      · omega
    · intro h
      rw [h, show r + (to - r) = to by omega, Int.emod_self]

set_option maxRecDepth 100000 in
set_option maxHeartbeats 1000000 in
theorem rpad_all (p : Nat) (go : Option Nat) (most : Int) (bs : List Int) (to : Int) (w : World) (hI : InkAt w 117 p go most bs) (hok : InkOk most bs) :
    Calls Try.prog 31 #[.pointer (some ⟨p, 0, none⟩), .int .i64 to] w fun e w' => e = .returned (.int .i64 (padR most bs to).1) ∧ InkDone w w' 117 p go most (padR most bs to).2 := by
  unfold padR
  have HI : Hid (InkAt w 117 p go most bs) := hI
  have HOK : Hid (InkOk most bs) := hok
  have hlen : (bs.length : Int) ≤ 16777216 := by have := hok.2.1; have := hok.2.2; omega
  split
  · rename_i h
    clear hI hok
    rcases h with h | h
    · go_enter Try.func31, Try.ntmps31
      go_wp2
      go_ret
      exact ⟨rfl, InkDone.refl HI.out⟩
    · have h' : ¬ to < 1 := by omega
      go_enter Try.func31, Try.ntmps31
      go_wp2
      go_ret
      exact ⟨rfl, InkDone.refl HI.out⟩
  · have b1 : 1 ≤ to := by omega
    have b2 : to ≤ 64 := by omega
    obtain ⟨ao, cap, HF, h0, _, hf⟩ := hI.open
    obtain ⟨m, hm⟩ : ∃ m : Nat, (m : Int) = -((bs.length : Int) % to) % to := ⟨(-((bs.length : Int) % to) % to).toNat, by have := Int.emod_nonneg (-((bs.length : Int) % to)) (show to ≠ 0 by omega); omega⟩
    have hmt : (m : Int) < to := by rw [hm]; exact Int.emod_lt_of_pos _ (by omega)
    have HM : Hid ((m : Int) = -((bs.length : Int) % to) % to) := hm
    rw [← hm]
    clear hI hok hm
    go_enter Try.func31, Try.ntmps31
    go_wp2
    go_loop [5] (fun i => ∃ k : Nat, k ≤ m ∧ i = .int .i64 k) (fun i => m - (intOf i).toNat)
    case atStart => exact ⟨0, Nat.zero_le _, rfl⟩
    case round =>
      obtain ⟨k, hk, rfl⟩ := hrel
      have hz := pad_zero (bs.length : Int) to k b1 (by rw [← HM.out]; omega)
      rw [← HM.out] at hz
      by_cases hlt : k < m
      · have hne : (((bs.length : Int) + (k : Int)) % to != 0) = true := by
          simp only [bne_iff_ne, ne_eq, hz]; omega
        clear hz
        go_wp2
        go_round
        case rel => exact ⟨k + 1, by omega, by go_num⟩
        case measure => simp [intOf]; omega
      · obtain rfl : k = m := by omega
        have hne : (((bs.length : Int) + (k : Int)) % to != 0) = false := by
          simp [hz]
        clear hz
        go_wp2_with (first | (go_at_call 29; refine (rfill_all p go most bs _ 0 _ HI.out HOK.out).mono ?_; rintro e w' ⟨rfl, D⟩))
        go_ret
        exact ⟨rfl, D⟩
end Go.Proofs.Ytomlndoffoeaiaa.Kit
