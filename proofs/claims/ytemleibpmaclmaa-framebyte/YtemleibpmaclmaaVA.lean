import Derived.Test.YtemleibpmaclmaaTU
import Derived.Test.YtemleibpmaclmaaTH
namespace Go.Proofs.Ytemleibpmaclmaa.Kit
open Go.RowKit Go.Shelf Go.Deep
set_option linter.unusedVariables false

/-! ### the calls of the laws FrameWhole and FrameByte, as they ask them -/
theorem wide_len : ∀ l : List Msg, l.length ≤ wideN l
  | [] => Nat.le_refl _
  | x :: l => by
    have h := wide_len l
    simp only [wideN, List.map_cons, List.sum_cons, List.length_cons] at h ⊢
    omega
theorem broad_no {l : List Msg} (h : broadB l = false) : wideN l < 2147483648 := by simpa [broadB] using h
theorem close_len : (putB 48 [] []).length = 24 := by rw [putB_len]; rfl
theorem str_len (l : List Msg) : (strB l).length = (putsB l).length + 24 := by
  unfold strB; rw [List.length_append, close_len]
theorem str_le {l : List Msg} (h : broadB l = false) : (strB l).length ≤ 2147483700 := by
  rw [str_len]
  have := puts_le l
  have := broad_no h
  omega
theorem fit_mem {l : List Msg} (h : fitB l = true) (x : Msg) (hx : x ∈ l) : x.1.length ≤ 100000000 ∧ x.2.length ≤ 100000000 := by
  obtain ⟨k, hk, rfl⟩ := List.getElem_of_mem hx
  have := fit_at h k hk
  omega
/-- the stream, laid -/
theorem stream_at {ao : Option Addr} {cap : Nat} {l : List Msg} {w : World} (hfit : fitB l = true) (hwide : broadB l = false) (hm : MsgsAt w ao l) :
    Calls Try.prog 29 #[.slice ao l.length cap] w fun e w' => ∃ X vc, e = .returned (.tuple #[.slice (some ⟨X, 0, none⟩) (strB l).length vc, .bool true]) ∧ Byts w w' (some ⟨X, 0, none⟩) vc (strB l).length (strB l) ∧ w.heap.size ≤ X ∧ X < w'.heap.size ∧ (strB l).length ≤ vc ∧ vc ≤ 9223372036854775807 := by
  refine (stream_any hfit hwide hm).mono ?_
  rintro e w' ⟨vo, vc, n, rfl, hb⟩
  have hn := hb.len
  subst hn
  obtain ⟨X, rfl, hr⟩ := BRow.of_own hb.own (by rw [str_len]; omega)
  have hvm : vc ≤ 9223372036854775807 := by
    rcases hb.own.2 with ⟨z, _⟩ | ⟨g, cp, cur, z, _, _, _, hm2, _⟩
    · simp at z
    · simp only [Value.slice.injEq] at z
      unfold maxLen at hm2
      omega
  exact ⟨X, vc, rfl, hb, hb.new X rfl, hr.lt, hb.cap, hvm⟩
/-- the whole stream, gone through -/
theorem gone_whole {l : List Msg} {X vc C cc : Nat} {co : Option Addr} {cuts : List Int} {sh : Bool} {W : World} (hfit : fitB l = true) (hwide : broadB l = false) (hC : cuts.length = C) (hb : BytesAt W (some ⟨X, 0, none⟩) (strB l)) (hX : X < W.heap.size) (hvc : (strB l).length ≤ vc) (hvm : vc ≤ 9223372036854775807) (hCl : C ≤ 140737488355328) (hc : IntsAt W co cuts) :
    Calls Try.prog 30 #[.slice (some ⟨X, 0, none⟩) (strB l).length vc, .slice co C cc, .bool sh] W fun e w' => ∃ lo lc, e = .returned (.tuple #[.slice lo l.length lc, .int .i64 3, .int .i64 0]) ∧ MsgsAt w' lo l ∧ Gr W w' := by
  obtain ⟨s1, s2⟩ := stands_whole hfit sh
  have := gone_some (cc := cc) (sh := sh) rfl hC hb hX hvc hvm (by have := str_le hwide; omega) hCl hc (by rw [s2]; exact fit_mem hfit)
  rw [s1, s2] at this
  exact this
/-- cut short -/
theorem gone_short {l : List Msg} {X vc C cc n k : Nat} {co : Option Addr} {cuts : List Int} {W : World} (hfit : fitB l = true) (hwide : broadB l = false) (hL : Lies l n k) (hk : k < (strB l).length) (hC : cuts.length = C) (hb : BytesAt W (some ⟨X, 0, none⟩) (strB l)) (hX : X < W.heap.size) (hvc : (strB l).length ≤ vc) (hvm : vc ≤ 9223372036854775807) (hCl : C ≤ 140737488355328) (hc : IntsAt W co cuts) :
    Calls Try.prog 30 #[.slice (some ⟨X, 0, none⟩) k vc, .slice co C cc, .bool true] W fun e w' => ∃ lo lc, e = .returned (.tuple #[.slice lo n lc, .int .i64 4, .int .i64 73]) ∧ MsgsAt w' lo (l.take n) ∧ Gr W w' := by
  obtain ⟨s1, s2⟩ := stands_short hfit n k hL
  have hl := str_le hwide
  have := gone_some (cc := cc) (sh := true) (b := (strB l).take k) (N := k) (by rw [List.length_take]; omega) hC (hb.take k) hX (by omega) hvm (by omega) hCl hc (by rw [s2]; exact fun x hx => fit_mem hfit x (List.mem_of_mem_take hx))
  rw [s1, s2, List.length_take, Nat.min_eq_left hL.1] at this
  exact this
/-- one byte another -/
theorem gone_byte {l : List Msg} {X vc C cc n k : Nat} {y : UInt8} {co : Option Addr} {cuts : List Int} {W : World} (hfit : fitB l = true) (hwide : broadB l = false) (hL : Lies l n k) (hk : k < (strB l).length) (hy : ∀ hb : k < (strB l).length, (strB l)[k] ≠ y) (hC : cuts.length = C) (hb : BytesAt W (some ⟨X, 0, none⟩) ((strB l).set k y)) (hX : X < W.heap.size) (hvc : (strB l).length ≤ vc) (hvm : vc ≤ 9223372036854775807) (hCl : C ≤ 140737488355328) (hc : IntsAt W co cuts) :
    Calls Try.prog 30 #[.slice (some ⟨X, 0, none⟩) (strB l).length vc, .slice co C cc, .bool true] W fun e w' => ∃ lo lc z, e = .returned (.tuple #[.slice lo n lc, .int .i64 4, .int .i64 z]) ∧ ¬ z = 0 ∧ MsgsAt w' lo (l.take n) ∧ Gr W w' := by
  obtain ⟨⟨z, z0, s1⟩, s2⟩ := stands_byte hfit n k hL y hy true
  have hl := str_le hwide
  have := gone_some (cc := cc) (sh := true) (b := (strB l).set k y) (N := (strB l).length) (by rw [List.length_set]) hC hb hX (by omega) hvm (by omega) hCl hc (by rw [s2]; exact fun x hx => fit_mem hfit x (List.mem_of_mem_take hx))
  rw [s1, s2, List.length_take, Nat.min_eq_left hL.1] at this
  refine this.mono ?_
  rintro e w' ⟨lo, lc, rfl, h1, h2⟩
  exact ⟨lo, lc, z, rfl, z0, h1, h2⟩
/-- the first ones, alike -/
theorem alike_take {l : List Msg} {n len : Nat} {lo ao : Option Addr} {lc cap : Nat} {W : World} (hl : l.length = len) (hn : n ≤ len) (hlen : len ≤ 140737488355328) (h1 : MsgsAt W lo (l.take n)) (h2 : MsgsAt W ao l) :
    Calls Try.prog 31 #[.slice lo n lc, .slice ao len cap, .int .i64 (n : Int)] W fun e w' => e = .returned (.bool true) ∧ Gr W w' := by
  subst hl
  have e : (l.take n).length = n := by rw [List.length_take]; omega
  have := alike_true (n := n) (c1 := lc) (c2 := cap) (by omega) hn (by omega) hlen (by rw [List.take_take, Nat.min_self]) h1 h2
  rw [e] at this
  exact this
/-- Put of one of the messages -/
theorem put_at {l : List Msg} {k b o : Nat} {W : World} (hfit : fitB l = true) (hk : k < l.length) (hm : MsgAt W b o l[k]) :
    ∃ mo ml mc bo bl bc, W.cell? ⟨b, o, none⟩ = some (.slice mo ml mc) ∧ W.cell? ⟨b, o + 1, none⟩ = some (.slice bo bl bc) ∧ Calls Try.prog 9 #[.agg #[.slice mo ml mc, .slice bo bl bc]] W fun e w' => ∃ vo vc, e = .returned (.tuple #[.slice vo (putB 49 l[k].1 l[k].2).length vc, .int .i64 0]) ∧ Gr W w' := by
  obtain ⟨mo, mc, bo, bc, c1, c2, -, m1, m2, -, m3, m4⟩ := hm.h
  refine ⟨mo, _, mc, bo, _, bc, c1, c2, ?_⟩
  obtain ⟨f1, f2⟩ := fit_at hfit k hk
  refine (put_any m2 m4 (by omega) (by omega)).mono ?_
  rintro e w' ⟨vo, vc, n, rfl, hb⟩
  have e1 : putE l[k].1 l[k].2 = 0 := if_pos ⟨f1, f2⟩
  have e2 : putR l[k].1 l[k].2 = putB 49 l[k].1 l[k].2 := if_pos ⟨f1, f2⟩
  rw [e2] at hb
  have e3 := hb.len
  exact ⟨vo, vc, by rw [e1, e3], hb.gr⟩
end Go.Proofs.Ytemleibpmaclmaa.Kit
