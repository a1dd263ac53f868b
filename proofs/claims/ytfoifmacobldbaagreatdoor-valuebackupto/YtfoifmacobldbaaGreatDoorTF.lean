import Derived.Test.YtfoifmacobldbaaGreatDoorTC
import Derived.Test.YtfoifmacobldbaaGreatDoorNB
import Derived.Test.YtfoifmacobldbaaGreatDoorFG
import Derived.Lib.ParseIntBMem
import Derived.Lib.ConvBytes
import Derived.Laws.Strings3
import Derived.Laws.Closers25
import Derived.Laws.Closers25b
import Derived.WalkKit
import Derived.BigCall
import Derived.BigGuard
import Derived.Test.YtfoifmacobldbaaGreatDoorNF
import Derived.Lib.AtoiErrMem
set_option maxRecDepth 100000
set_option maxHeartbeats 4000000
namespace Go.Proofs.YtfoifmacobldbaaGreatDoor.Kit
open Go.RowKit Go.Shelf Go.Deep
set_option linter.unusedVariables false
set_option linter.unusedSimpArgs false
/-! ### ParseUint, base 16 -/
/-- a digit of base sixteen, great letters too -/
def hxw (c : UInt8) : Option Nat := if 48 ≤ c.toNat ∧ c.toNat ≤ 57 then some (c.toNat - 48) else if 97 ≤ bits .or .u8 (c.toNat : Int) 32 ∧ bits .or .u8 (c.toNat : Int) 32 ≤ 102 then some (bits .or .u8 (c.toNat : Int) 32 - 87).toNat else none
def phx (M acc : Nat) : List UInt8 → Lib.NumEnd Nat
  | [] => .ok acc
  | c :: r => match hxw c with
    | none => .syntax
    | some d => if M < acc * 16 + d then .range else phx M (acc * 16 + d) r
theorem uint147_16_8 (t : ByteArray) (hne : t.size ≠ 0) (hmax : t.size ≤ 9223372036854775806) (w : World) :
    Calls Tryz.prog 147 #[.string t, .int .i64 16, .int .i64 8] w fun e w' => e = .returned (Lib.uintTupleM 191 255 (phx 255 0 t.data.toList)) ∧ w' = Lib.bytesWorld w 5 t := by
  have hemp : t.toList.isEmpty = false := by
    rw [← decide_eq_emptyBytes]
    exact decide_eq_false (fun h => hne (by rw [h]; rfl))
  have hcv := Lib.run_convert_string_bytes (P := Tryz.prog) w 9 52 5 t (u := .string) Tryz.underlying9 Tryz.underlying52 Tryz.underlying5
  have hB : ∀ j, j < t.size → (Lib.bytesWorld w 5 t).cell? ⟨w.heap.size, j, none⟩ = some (.int .u8 (t.data.toList.getD j 0).toNat) := fun j hj => Lib.bytesWorld_cell w 5 t j hj
  obtain ⟨W1, hW1⟩ : ∃ W1, W1 = Lib.bytesWorld w 5 t := ⟨_, rfl⟩
  rw [← hW1] at hcv hB ⊢
  clear hW1
  obtain ⟨bs, hL⟩ : ∃ bs, bs = t.data.toList := ⟨_, rfl⟩
  have hLn : bs.length = t.size := by rw [hL, Lib.size_eq]
  rw [← hL] at hB ⊢
  clear hL
  have hmv : IntKind.u64.wrap (IntKind.u64.wrap 256 - 1) = 255 := by
    rw [IntKind.wrap_u64, IntKind.wrap_u64]
    decide
  go_enter Tryz.func147, Tryz.ntmps147
  go_wp2
  go_loop [12, 13, 101] (fun vu vn vi => ∃ (k acc : Nat) (a : Int), vu = .bool false ∧ vn = .int .u64 a ∧ vi = .int .i64 k ∧ k ≤ t.size ∧ Hid (a = (acc : Int) ∧ acc ≤ 255 ∧ phx 255 0 bs = phx 255 acc (bs.drop k)))
    (fun _ _ vi => t.size - (intOf vi).toNat)
  case atStart => exact ⟨0, 0, 0, rfl, rfl, rfl, by omega, rfl, by omega, rfl⟩
  case round =>
    obtain ⟨k, acc, a, rfl, rfl, rfl, hk, hh⟩ := hrel
    obtain ⟨ha, hacc, hdec⟩ := hh.out
    clear hh
    have a0 : 0 ≤ a := by omega
    have a1 : a ≤ 255 := by omega
    by_cases hkn : k < t.size
    · have hc := hB k hkn
      have hdrop : bs.drop k = bs[k]'(by omega) :: bs.drop (k + 1) := List.drop_eq_getElem_cons (by omega)
      have hget : bs.getD k 0 = bs[k]'(by omega) := by simp [List.getD, List.getElem?_eq_getElem (show k < bs.length by omega)]
      rw [hdrop] at hdec
      rw [hget] at hc
      generalize bs[k]'(by omega) = c at hc hdec
      have hc256 : c.toNat < 256 := c.toNat_lt
      have hv0 := bits_lo_u8 .or (c.toNat : Int) 32
      have hv1 := bits_hi_u8 .or (c.toNat : Int) 32
      have h95 : bits .or .u8 95 32 = 127 := by decide
      clear hB hdrop hget
      by_cases hdig : 48 ≤ c.toNat ∧ c.toNat ≤ 57
      · obtain ⟨hd0, hd1⟩ := hdig
        obtain ⟨d, hdd⟩ : ∃ d, d = c.toNat - 48 := ⟨_, rfl⟩
        have hd : hxw c = some d := by unfold hxw; rw [if_pos ⟨hd0, hd1⟩, hdd]
        have hdI : (c.toNat : Int) - 48 = (d : Int) := by omega
        have hd16 : d < 16 := by omega
        clear hdd
        by_cases hov : 255 < acc * 16 + d
        · have hF : phx 255 acc (c :: bs.drop (k + 1)) = .range := by simp [phx, hd, hov]
          rw [hF] at hdec
          have iov : 255 < a * 16 + (d : Int) := by omega
          clear hacc hF hov ha hd
          go_wp2_with (go_at_call 167; refine (Tryz.internal_strconv_lower _ _).mono ?_; rintro e w' ⟨rfl, rfl⟩)
          all_goals go_ret2
          all_goals first | exact ⟨rfl, rfl⟩ | exact ⟨by rw [hdec]; rfl, rfl⟩
        · have hF : phx 255 acc (c :: bs.drop (k + 1)) = phx 255 (acc * 16 + d) (bs.drop (k + 1)) := by simp [phx, hd, hov]
          have HN : Hid (a * 16 + (d : Int) = ((acc * 16 + d : Nat) : Int) ∧ acc * 16 + d ≤ 255 ∧ phx 255 0 bs = phx 255 (acc * 16 + d) (bs.drop (k + 1))) := hidM ⟨by omega, by omega, hdec.trans hF⟩
          have iov : a * 16 + (d : Int) ≤ 255 := by omega
          clear hacc hF hov hdec ha hd
          go_wp2_with (go_at_call 167; refine (Tryz.internal_strconv_lower _ _).mono ?_; rintro e w' ⟨rfl, rfl⟩)
          refine ⟨⟨k + 1, acc * 16 + d, a * 16 + (d : Int), rfl, (by first | rfl | (congr 1; omega)), (by first | rfl | (congr 1; omega)), by omega, HN⟩, by simp [intOf]; omega⟩
      · by_cases hlet : 97 ≤ bits .or .u8 (c.toNat : Int) 32 ∧ bits .or .u8 (c.toNat : Int) 32 ≤ 102
        · obtain ⟨hl0, hl1⟩ := hlet
          obtain ⟨d, hdd⟩ : ∃ d : Nat, (d : Int) = bits .or .u8 (c.toNat : Int) 32 - 87 := ⟨(bits .or .u8 (c.toNat : Int) 32 - 87).toNat, by omega⟩
          have hd : hxw c = some d := by
            unfold hxw
            rw [if_neg hdig, if_pos ⟨hl0, hl1⟩]
            congr 1
            omega
          have hdI : bits .or .u8 (c.toNat : Int) 32 = (d : Int) + 87 := by omega
          have hd16 : d < 16 := by omega
          have hd10 : 10 ≤ d := by omega
          have hn95 : ¬ (c.toNat : Int) = 95 := fun h => by rw [h, h95] at hl1; omega
          clear hdd hl0 hl1 hv0 hv1
          rcases (show c.toNat < 48 ∨ 57 < c.toNat by omega) with hq | hq
          · have hq1 : ¬ (48 : Int) ≤ (c.toNat : Int) := by omega
            clear hdig hq
            by_cases hov : 255 < acc * 16 + d
            · have hF : phx 255 acc (c :: bs.drop (k + 1)) = .range := by simp [phx, hd, hov]
              rw [hF] at hdec
              have iov : 255 < a * 16 + (d : Int) := by omega
              clear hacc hF hov ha hd
              go_wp2_with (go_at_call 167; refine (Tryz.internal_strconv_lower _ _).mono ?_; rintro e w' ⟨rfl, rfl⟩)
              all_goals go_ret2
              all_goals first | exact ⟨rfl, rfl⟩ | exact ⟨by rw [hdec]; rfl, rfl⟩
            · have hF : phx 255 acc (c :: bs.drop (k + 1)) = phx 255 (acc * 16 + d) (bs.drop (k + 1)) := by simp [phx, hd, hov]
              have HN : Hid (a * 16 + (d : Int) = ((acc * 16 + d : Nat) : Int) ∧ acc * 16 + d ≤ 255 ∧ phx 255 0 bs = phx 255 (acc * 16 + d) (bs.drop (k + 1))) := hidM ⟨by omega, by omega, hdec.trans hF⟩
              have iov : a * 16 + (d : Int) ≤ 255 := by omega
              clear hacc hF hov hdec ha hd
              go_wp2_with (go_at_call 167; refine (Tryz.internal_strconv_lower _ _).mono ?_; rintro e w' ⟨rfl, rfl⟩)
              refine ⟨⟨k + 1, acc * 16 + d, a * 16 + (d : Int), rfl, (by first | rfl | (congr 1; omega)), (by first | rfl | (congr 1; omega)), by omega, HN⟩, by simp [intOf]; omega⟩
          · have hq1 : (48 : Int) ≤ (c.toNat : Int) := by omega
            have hq2 : ¬ (c.toNat : Int) ≤ 57 := by omega
            clear hdig hq
            by_cases hov : 255 < acc * 16 + d
            · have hF : phx 255 acc (c :: bs.drop (k + 1)) = .range := by simp [phx, hd, hov]
              rw [hF] at hdec
              have iov : 255 < a * 16 + (d : Int) := by omega
              clear hacc hF hov ha hd
              go_wp2_with (go_at_call 167; refine (Tryz.internal_strconv_lower _ _).mono ?_; rintro e w' ⟨rfl, rfl⟩)
              all_goals go_ret2
              all_goals first | exact ⟨rfl, rfl⟩ | exact ⟨by rw [hdec]; rfl, rfl⟩
            · have hF : phx 255 acc (c :: bs.drop (k + 1)) = phx 255 (acc * 16 + d) (bs.drop (k + 1)) := by simp [phx, hd, hov]
              have HN : Hid (a * 16 + (d : Int) = ((acc * 16 + d : Nat) : Int) ∧ acc * 16 + d ≤ 255 ∧ phx 255 0 bs = phx 255 (acc * 16 + d) (bs.drop (k + 1))) := hidM ⟨by omega, by omega, hdec.trans hF⟩
              have iov : a * 16 + (d : Int) ≤ 255 := by omega
              clear hacc hF hov hdec ha hd
              go_wp2_with (go_at_call 167; refine (Tryz.internal_strconv_lower _ _).mono ?_; rintro e w' ⟨rfl, rfl⟩)
              refine ⟨⟨k + 1, acc * 16 + d, a * 16 + (d : Int), rfl, (by first | rfl | (congr 1; omega)), (by first | rfl | (congr 1; omega)), by omega, HN⟩, by simp [intOf]; omega⟩
        · have hF : phx 255 acc (c :: bs.drop (k + 1)) = .syntax := by simp [phx, hxw, hdig, hlet]
          rw [hF] at hdec
          clear hacc hF ha
          rcases (show c.toNat < 48 ∨ 57 < c.toNat by omega) with hq | hq
          · have hq1 : ¬ (48 : Int) ≤ (c.toNat : Int) := by omega
            clear hdig hq
            rcases (show bits .or .u8 (c.toNat : Int) 32 < 97 ∨ (102 < bits .or .u8 (c.toNat : Int) 32 ∧ bits .or .u8 (c.toNat : Int) 32 ≤ 122) ∨ 122 < bits .or .u8 (c.toNat : Int) 32 by omega) with hy | hy | hy
            · clear hlet
              have h9 : ¬ 97 ≤ bits .or .u8 (c.toNat : Int) 32 := by omega
              go_wp2_with (go_at_call 167; refine (Tryz.internal_strconv_lower _ _).mono ?_; rintro e w' ⟨rfl, rfl⟩)
              all_goals go_ret2
              all_goals first | exact ⟨rfl, rfl⟩ | exact ⟨by rw [hdec]; rfl, rfl⟩
            · clear hlet
              have h9 : 97 ≤ bits .or .u8 (c.toNat : Int) 32 := by omega
              have h8 := hy.2
              have h7 := hy.1
              clear hy
              go_wp2_with (go_at_call 167; refine (Tryz.internal_strconv_lower _ _).mono ?_; rintro e w' ⟨rfl, rfl⟩)
              all_goals go_ret2
              all_goals first | exact ⟨rfl, rfl⟩ | exact ⟨by rw [hdec]; rfl, rfl⟩
            · clear hlet
              have h9 : 97 ≤ bits .or .u8 (c.toNat : Int) 32 := by omega
              have h8 : ¬ bits .or .u8 (c.toNat : Int) 32 ≤ 122 := by omega
              clear hy
              go_wp2_with (go_at_call 167; refine (Tryz.internal_strconv_lower _ _).mono ?_; rintro e w' ⟨rfl, rfl⟩)
              all_goals go_ret2
              all_goals first | exact ⟨rfl, rfl⟩ | exact ⟨by rw [hdec]; rfl, rfl⟩
          · have hq1 : (48 : Int) ≤ (c.toNat : Int) := by omega
            have hq2 : ¬ (c.toNat : Int) ≤ 57 := by omega
            clear hdig hq
            rcases (show bits .or .u8 (c.toNat : Int) 32 < 97 ∨ (102 < bits .or .u8 (c.toNat : Int) 32 ∧ bits .or .u8 (c.toNat : Int) 32 ≤ 122) ∨ 122 < bits .or .u8 (c.toNat : Int) 32 by omega) with hy | hy | hy
            · clear hlet
              have h9 : ¬ 97 ≤ bits .or .u8 (c.toNat : Int) 32 := by omega
              go_wp2_with (go_at_call 167; refine (Tryz.internal_strconv_lower _ _).mono ?_; rintro e w' ⟨rfl, rfl⟩)
              all_goals go_ret2
              all_goals first | exact ⟨rfl, rfl⟩ | exact ⟨by rw [hdec]; rfl, rfl⟩
            · clear hlet
              have h9 : 97 ≤ bits .or .u8 (c.toNat : Int) 32 := by omega
              have h8 := hy.2
              have h7 := hy.1
              clear hy
              go_wp2_with (go_at_call 167; refine (Tryz.internal_strconv_lower _ _).mono ?_; rintro e w' ⟨rfl, rfl⟩)
              all_goals go_ret2
              all_goals first | exact ⟨rfl, rfl⟩ | exact ⟨by rw [hdec]; rfl, rfl⟩
            · clear hlet
              have h9 : 97 ≤ bits .or .u8 (c.toNat : Int) 32 := by omega
              have h8 : ¬ bits .or .u8 (c.toNat : Int) 32 ≤ 122 := by omega
              clear hy
              go_wp2_with (go_at_call 167; refine (Tryz.internal_strconv_lower _ _).mono ?_; rintro e w' ⟨rfl, rfl⟩)
              all_goals go_ret2
              all_goals first | exact ⟨rfl, rfl⟩ | exact ⟨by rw [hdec]; rfl, rfl⟩
    · have hkk : k = t.size := by omega
      subst hkk
      have hF : phx 255 acc (bs.drop t.size) = .ok acc := by rw [List.drop_eq_nil_of_le (by omega)]; rfl
      rw [hF] at hdec
      subst ha
      clear hacc hF a0 a1
      go_wp2
      go_ret2
      first | exact ⟨rfl, rfl⟩ | exact ⟨by rw [hdec]; rfl, rfl⟩
/-! ### ParseUint, base 16, of 52 bits -/
theorem uint147_16_52 (t : ByteArray) (hne : t.size ≠ 0) (hmax : t.size ≤ 9223372036854775806) (w : World) :
    Calls Tryz.prog 147 #[.string t, .int .i64 16, .int .i64 52] w fun e w' => e = .returned (Lib.uintTupleM 191 4503599627370495 (phx 4503599627370495 0 t.data.toList)) ∧ w' = Lib.bytesWorld w 5 t := by
  have hemp : t.toList.isEmpty = false := by
    rw [← decide_eq_emptyBytes]
    exact decide_eq_false (fun h => hne (by rw [h]; rfl))
  have hcv := Lib.run_convert_string_bytes (P := Tryz.prog) w 9 52 5 t (u := .string) Tryz.underlying9 Tryz.underlying52 Tryz.underlying5
  have hB : ∀ j, j < t.size → (Lib.bytesWorld w 5 t).cell? ⟨w.heap.size, j, none⟩ = some (.int .u8 (t.data.toList.getD j 0).toNat) := fun j hj => Lib.bytesWorld_cell w 5 t j hj
  obtain ⟨W1, hW1⟩ : ∃ W1, W1 = Lib.bytesWorld w 5 t := ⟨_, rfl⟩
  rw [← hW1] at hcv hB ⊢
  clear hW1
  obtain ⟨bs, hL⟩ : ∃ bs, bs = t.data.toList := ⟨_, rfl⟩
  have hLn : bs.length = t.size := by rw [hL, Lib.size_eq]
  rw [← hL] at hB ⊢
  clear hL
  have hmv : IntKind.u64.wrap (IntKind.u64.wrap 4503599627370496 - 1) = 4503599627370495 := by
    rw [IntKind.wrap_u64, IntKind.wrap_u64]
    decide
  go_enter Tryz.func147, Tryz.ntmps147
  go_wp2
  go_loop [12, 13, 101] (fun vu vn vi => ∃ (k acc : Nat) (a : Int), vu = .bool false ∧ vn = .int .u64 a ∧ vi = .int .i64 k ∧ k ≤ t.size ∧ Hid (a = (acc : Int) ∧ acc ≤ 4503599627370495 ∧ phx 4503599627370495 0 bs = phx 4503599627370495 acc (bs.drop k)))
    (fun _ _ vi => t.size - (intOf vi).toNat)
  case atStart => exact ⟨0, 0, 0, rfl, rfl, rfl, by omega, rfl, by omega, rfl⟩
  case round =>
    obtain ⟨k, acc, a, rfl, rfl, rfl, hk, hh⟩ := hrel
    obtain ⟨ha, hacc, hdec⟩ := hh.out
    clear hh
    have a0 : 0 ≤ a := by omega
    have a1 : a ≤ 4503599627370495 := by omega
    by_cases hkn : k < t.size
    · have hc := hB k hkn
      have hdrop : bs.drop k = bs[k]'(by omega) :: bs.drop (k + 1) := List.drop_eq_getElem_cons (by omega)
      have hget : bs.getD k 0 = bs[k]'(by omega) := by simp [List.getD, List.getElem?_eq_getElem (show k < bs.length by omega)]
      rw [hdrop] at hdec
      rw [hget] at hc
      generalize bs[k]'(by omega) = c at hc hdec
      have hc256 : c.toNat < 256 := c.toNat_lt
      have hv0 := bits_lo_u8 .or (c.toNat : Int) 32
      have hv1 := bits_hi_u8 .or (c.toNat : Int) 32
      have h95 : bits .or .u8 95 32 = 127 := by decide
      clear hB hdrop hget
      by_cases hdig : 48 ≤ c.toNat ∧ c.toNat ≤ 57
      · obtain ⟨hd0, hd1⟩ := hdig
        obtain ⟨d, hdd⟩ : ∃ d, d = c.toNat - 48 := ⟨_, rfl⟩
        have hd : hxw c = some d := by unfold hxw; rw [if_pos ⟨hd0, hd1⟩, hdd]
        have hdI : (c.toNat : Int) - 48 = (d : Int) := by omega
        have hd16 : d < 16 := by omega
        clear hdd
        by_cases hov : 4503599627370495 < acc * 16 + d
        · have hF : phx 4503599627370495 acc (c :: bs.drop (k + 1)) = .range := by simp [phx, hd, hov]
          rw [hF] at hdec
          have iov : 4503599627370495 < a * 16 + (d : Int) := by omega
          clear hacc hF hov ha hd
          go_wp2_with (go_at_call 167; refine (Tryz.internal_strconv_lower _ _).mono ?_; rintro e w' ⟨rfl, rfl⟩)
          all_goals go_ret2
          all_goals first | exact ⟨rfl, rfl⟩ | exact ⟨by rw [hdec]; rfl, rfl⟩
        · have hF : phx 4503599627370495 acc (c :: bs.drop (k + 1)) = phx 4503599627370495 (acc * 16 + d) (bs.drop (k + 1)) := by simp [phx, hd, hov]
          have HN : Hid (a * 16 + (d : Int) = ((acc * 16 + d : Nat) : Int) ∧ acc * 16 + d ≤ 4503599627370495 ∧ phx 4503599627370495 0 bs = phx 4503599627370495 (acc * 16 + d) (bs.drop (k + 1))) := hidM ⟨by omega, by omega, hdec.trans hF⟩
          have iov : a * 16 + (d : Int) ≤ 4503599627370495 := by omega
          clear hacc hF hov hdec ha hd
          go_wp2_with (go_at_call 167; refine (Tryz.internal_strconv_lower _ _).mono ?_; rintro e w' ⟨rfl, rfl⟩)
          refine ⟨⟨k + 1, acc * 16 + d, a * 16 + (d : Int), rfl, (by first | rfl | (congr 1; omega)), (by first | rfl | (congr 1; omega)), by omega, HN⟩, by simp [intOf]; omega⟩
      · by_cases hlet : 97 ≤ bits .or .u8 (c.toNat : Int) 32 ∧ bits .or .u8 (c.toNat : Int) 32 ≤ 102
        · obtain ⟨hl0, hl1⟩ := hlet
          obtain ⟨d, hdd⟩ : ∃ d : Nat, (d : Int) = bits .or .u8 (c.toNat : Int) 32 - 87 := ⟨(bits .or .u8 (c.toNat : Int) 32 - 87).toNat, by omega⟩
          have hd : hxw c = some d := by
            unfold hxw
            rw [if_neg hdig, if_pos ⟨hl0, hl1⟩]
            congr 1
            omega
          have hdI : bits .or .u8 (c.toNat : Int) 32 = (d : Int) + 87 := by omega
          have hd16 : d < 16 := by omega
          have hd10 : 10 ≤ d := by omega
          have hn95 : ¬ (c.toNat : Int) = 95 := fun h => by rw [h, h95] at hl1; omega
          clear hdd hl0 hl1 hv0 hv1
          rcases (show c.toNat < 48 ∨ 57 < c.toNat by omega) with hq | hq
          · have hq1 : ¬ (48 : Int) ≤ (c.toNat : Int) := by omega
            clear hdig hq
            by_cases hov : 4503599627370495 < acc * 16 + d
            · have hF : phx 4503599627370495 acc (c :: bs.drop (k + 1)) = .range := by simp [phx, hd, hov]
              rw [hF] at hdec
              have iov : 4503599627370495 < a * 16 + (d : Int) := by omega
              clear hacc hF hov ha hd
              go_wp2_with (go_at_call 167; refine (Tryz.internal_strconv_lower _ _).mono ?_; rintro e w' ⟨rfl, rfl⟩)
              all_goals go_ret2
              all_goals first | exact ⟨rfl, rfl⟩ | exact ⟨by rw [hdec]; rfl, rfl⟩
            · have hF : phx 4503599627370495 acc (c :: bs.drop (k + 1)) = phx 4503599627370495 (acc * 16 + d) (bs.drop (k + 1)) := by simp [phx, hd, hov]
              have HN : Hid (a * 16 + (d : Int) = ((acc * 16 + d : Nat) : Int) ∧ acc * 16 + d ≤ 4503599627370495 ∧ phx 4503599627370495 0 bs = phx 4503599627370495 (acc * 16 + d) (bs.drop (k + 1))) := hidM ⟨by omega, by omega, hdec.trans hF⟩
              have iov : a * 16 + (d : Int) ≤ 4503599627370495 := by omega
              clear hacc hF hov hdec ha hd
              go_wp2_with (go_at_call 167; refine (Tryz.internal_strconv_lower _ _).mono ?_; rintro e w' ⟨rfl, rfl⟩)
              refine ⟨⟨k + 1, acc * 16 + d, a * 16 + (d : Int), rfl, (by first | rfl | (congr 1; omega)), (by first | rfl | (congr 1; omega)), by omega, HN⟩, by simp [intOf]; omega⟩
          · have hq1 : (48 : Int) ≤ (c.toNat : Int) := by omega
            have hq2 : ¬ (c.toNat : Int) ≤ 57 := by omega
            clear hdig hq
            by_cases hov : 4503599627370495 < acc * 16 + d
            · have hF : phx 4503599627370495 acc (c :: bs.drop (k + 1)) = .range := by simp [phx, hd, hov]
              rw [hF] at hdec
              have iov : 4503599627370495 < a * 16 + (d : Int) := by omega
              clear hacc hF hov ha hd
              go_wp2_with (go_at_call 167; refine (Tryz.internal_strconv_lower _ _).mono ?_; rintro e w' ⟨rfl, rfl⟩)
              all_goals go_ret2
              all_goals first | exact ⟨rfl, rfl⟩ | exact ⟨by rw [hdec]; rfl, rfl⟩
            · have hF : phx 4503599627370495 acc (c :: bs.drop (k + 1)) = phx 4503599627370495 (acc * 16 + d) (bs.drop (k + 1)) := by simp [phx, hd, hov]
              have HN : Hid (a * 16 + (d : Int) = ((acc * 16 + d : Nat) : Int) ∧ acc * 16 + d ≤ 4503599627370495 ∧ phx 4503599627370495 0 bs = phx 4503599627370495 (acc * 16 + d) (bs.drop (k + 1))) := hidM ⟨by omega, by omega, hdec.trans hF⟩
              have iov : a * 16 + (d : Int) ≤ 4503599627370495 := by omega
              clear hacc hF hov hdec ha hd
              go_wp2_with (go_at_call 167; refine (Tryz.internal_strconv_lower _ _).mono ?_; rintro e w' ⟨rfl, rfl⟩)
              refine ⟨⟨k + 1, acc * 16 + d, a * 16 + (d : Int), rfl, (by first | rfl | (congr 1; omega)), (by first | rfl | (congr 1; omega)), by omega, HN⟩, by simp [intOf]; omega⟩
        · have hF : phx 4503599627370495 acc (c :: bs.drop (k + 1)) = .syntax := by simp [phx, hxw, hdig, hlet]
          rw [hF] at hdec
          clear hacc hF ha
          rcases (show c.toNat < 48 ∨ 57 < c.toNat by omega) with hq | hq
          · have hq1 : ¬ (48 : Int) ≤ (c.toNat : Int) := by omega
            clear hdig hq
            rcases (show bits .or .u8 (c.toNat : Int) 32 < 97 ∨ (102 < bits .or .u8 (c.toNat : Int) 32 ∧ bits .or .u8 (c.toNat : Int) 32 ≤ 122) ∨ 122 < bits .or .u8 (c.toNat : Int) 32 by omega) with hy | hy | hy
            · clear hlet
              have h9 : ¬ 97 ≤ bits .or .u8 (c.toNat : Int) 32 := by omega
              go_wp2_with (go_at_call 167; refine (Tryz.internal_strconv_lower _ _).mono ?_; rintro e w' ⟨rfl, rfl⟩)
              all_goals go_ret2
              all_goals first | exact ⟨rfl, rfl⟩ | exact ⟨by rw [hdec]; rfl, rfl⟩
            · clear hlet
              have h9 : 97 ≤ bits .or .u8 (c.toNat : Int) 32 := by omega
              have h8 := hy.2
              have h7 := hy.1
              clear hy
              go_wp2_with (go_at_call 167; refine (Tryz.internal_strconv_lower _ _).mono ?_; rintro e w' ⟨rfl, rfl⟩)
              all_goals go_ret2
              all_goals first | exact ⟨rfl, rfl⟩ | exact ⟨by rw [hdec]; rfl, rfl⟩
            · clear hlet
              have h9 : 97 ≤ bits .or .u8 (c.toNat : Int) 32 := by omega
              have h8 : ¬ bits .or .u8 (c.toNat : Int) 32 ≤ 122 := by omega
              clear hy
              go_wp2_with (go_at_call 167; refine (Tryz.internal_strconv_lower _ _).mono ?_; rintro e w' ⟨rfl, rfl⟩)
              all_goals go_ret2
              all_goals first | exact ⟨rfl, rfl⟩ | exact ⟨by rw [hdec]; rfl, rfl⟩
          · have hq1 : (48 : Int) ≤ (c.toNat : Int) := by omega
            have hq2 : ¬ (c.toNat : Int) ≤ 57 := by omega
            clear hdig hq
            rcases (show bits .or .u8 (c.toNat : Int) 32 < 97 ∨ (102 < bits .or .u8 (c.toNat : Int) 32 ∧ bits .or .u8 (c.toNat : Int) 32 ≤ 122) ∨ 122 < bits .or .u8 (c.toNat : Int) 32 by omega) with hy | hy | hy
            · clear hlet
              have h9 : ¬ 97 ≤ bits .or .u8 (c.toNat : Int) 32 := by omega
              go_wp2_with (go_at_call 167; refine (Tryz.internal_strconv_lower _ _).mono ?_; rintro e w' ⟨rfl, rfl⟩)
              all_goals go_ret2
              all_goals first | exact ⟨rfl, rfl⟩ | exact ⟨by rw [hdec]; rfl, rfl⟩
            · clear hlet
              have h9 : 97 ≤ bits .or .u8 (c.toNat : Int) 32 := by omega
              have h8 := hy.2
              have h7 := hy.1
              clear hy
              go_wp2_with (go_at_call 167; refine (Tryz.internal_strconv_lower _ _).mono ?_; rintro e w' ⟨rfl, rfl⟩)
              all_goals go_ret2
              all_goals first | exact ⟨rfl, rfl⟩ | exact ⟨by rw [hdec]; rfl, rfl⟩
            · clear hlet
              have h9 : 97 ≤ bits .or .u8 (c.toNat : Int) 32 := by omega
              have h8 : ¬ bits .or .u8 (c.toNat : Int) 32 ≤ 122 := by omega
              clear hy
              go_wp2_with (go_at_call 167; refine (Tryz.internal_strconv_lower _ _).mono ?_; rintro e w' ⟨rfl, rfl⟩)
              all_goals go_ret2
              all_goals first | exact ⟨rfl, rfl⟩ | exact ⟨by rw [hdec]; rfl, rfl⟩
    · have hkk : k = t.size := by omega
      subst hkk
      have hF : phx 4503599627370495 acc (bs.drop t.size) = .ok acc := by rw [List.drop_eq_nil_of_le (by omega)]; rfl
      rw [hF] at hdec
      subst ha
      clear hacc hF a0 a1
      go_wp2
      go_ret2
      first | exact ⟨rfl, rfl⟩ | exact ⟨by rw [hdec]; rfl, rfl⟩
/-! ### ParseUint 125, ParseInt 127 -/
theorem gr_belowW {w w' : World} (h : Below w.heap.size w w') : Gr w w' := (Keeps.ofBelow h).mono (fun b h h' => by omega)
theorem gr_bytes (w : World) (s : ByteArray) : Gr w (Lib.bytesWorld w 5 s) := gr_belowW (Lib.bytesWorld_below w 5 s)
theorem uint147_empty (b k : Int) (w : World) : Calls Tryz.prog 147 #[.string ⟨#[]⟩, .int .i64 b, .int .i64 k] w fun e w' => e = .returned (.tuple #[.int .u64 0, .iface 191 (.int .i64 2)]) ∧ w' = w := by
  go_enter Tryz.func147, Tryz.ntmps147
  go_wp2
  go_ret2
  exact ⟨rfl, rfl⟩
theorem pub125 (b k : Int) (M : Nat) (t : ByteArray) (x : Lib.NumEnd Nat) (hs : t.size ≤ 1000000) (w : World) (hT : Tbs w) (h : Calls Tryz.prog 147 #[.string t, .int .i64 b, .int .i64 k] w fun e w' => e = .returned (Lib.uintTupleM 191 M x) ∧ Gr w w') :
    Calls Tryz.prog 125 #[.string t, .int .i64 b, .int .i64 k] w fun e w' => ∃ er, e = .returned (.tuple #[.int .u64 (QD.valU M x : Nat), er]) ∧ Gr w w' := by
  have HT := hidM hT
  clear hT
  cases x with
  | ok n =>
    have HC : Hid (Calls Tryz.prog 147 #[.string t, .int .i64 b, .int .i64 k] w fun e w' => e = .returned (.tuple #[.int .u64 (n : Int), .nilIface]) ∧ Gr w w') := h
    clear h
    go_enter Tryz.func125, Tryz.ntmps125
    go_wp2_with (go_at_call 147; refine HC.out.mono ?_; rintro e w' ⟨rfl, hg⟩; replace hg := hidM hg)
    go_ret2
    exact ⟨_, rfl, hg.out⟩
  | «syntax» =>
    have HC : Hid (Calls Tryz.prog 147 #[.string t, .int .i64 b, .int .i64 k] w fun e w' => e = .returned (.tuple #[.int .u64 0, .iface 191 (.int .i64 2)]) ∧ Gr w w') := h
    clear h
    go_enter Tryz.func125, Tryz.ntmps125
    go_wp2_with (first | (go_at_call 147; refine HC.out.mono ?_; rintro e w' ⟨rfl, hg⟩; replace hg := hidM hg) | (go_at_call 148; obtain ⟨te, pe, hv⟩ := (HT.out.gr hg.out).syn; refine (Tryz.strconv_toError_syntax _ _ _ _ _ _ (by omega) hv (.inr ⟨te, pe, rfl⟩)).mono ?_; rintro e w2 ⟨nn, rfl, h1, h2, h3⟩; have HG2 := hidM (gr_belowW h3); clear h1 h2 h3 hv))
    go_ret2
    exact ⟨_, rfl, hg.out.trans HG2.out (fun _ _ h => h)⟩
  | range =>
    have HC : Hid (Calls Tryz.prog 147 #[.string t, .int .i64 b, .int .i64 k] w fun e w' => e = .returned (.tuple #[.int .u64 (M : Int), .iface 191 (.int .i64 1)]) ∧ Gr w w') := h
    clear h
    go_enter Tryz.func125, Tryz.ntmps125
    go_wp2_with (first | (go_at_call 147; refine HC.out.mono ?_; rintro e w' ⟨rfl, hg⟩; replace hg := hidM hg) | (go_at_call 148; obtain ⟨te, pe, hv⟩ := (HT.out.gr hg.out).rng; refine (Tryz.strconv_toError_range _ _ _ _ _ _ (by omega) hv (.inr ⟨te, pe, rfl⟩)).mono ?_; rintro e w2 ⟨nn, rfl, h1, h2, h3⟩; have HG2 := hidM (gr_belowW h3); clear h1 h2 h3 hv))
    go_ret2
    exact ⟨_, rfl, hg.out.trans HG2.out (fun _ _ h => h)⟩
theorem empty_ba {t : ByteArray} (h : t.size = 0) : t = ⟨#[]⟩ := size_nil h
theorem nonempty_ba {t : ByteArray} (h : t.size ≠ 0) : t.data.toList ≠ [] := fun e => h (by rw [Lib.size_eq, e]; rfl)
theorem pu10_53 (t : ByteArray) (hs : t.size ≤ 1000000) (w : World) (hT : Tbs w) : Calls Tryz.prog 125 #[.string t, .int .i64 10, .int .i64 53] w fun e w' => ∃ er, e = .returned (.tuple #[.int .u64 (QD.valU (2 ^ 53 - 1) (Lib.parseUintB 53 t.data.toList) : Nat), er]) ∧ Gr w w' := by
  refine pub125 10 53 (2 ^ 53 - 1) t _ hs w hT ?_
  by_cases h0 : t.size = 0
  · obtain rfl := empty_ba h0
    exact (uint147_empty 10 53 w).mono fun e w' ⟨he, hw⟩ => ⟨he, by rw [hw]; exact Keeps.refl _ _⟩
  · refine (uint147_10_53 t h0 (by omega) w).mono fun e w' ⟨he, hw⟩ => ⟨?_, by rw [hw]; exact gr_bytes w t⟩
    rw [he, Lib.parseUintB, if_neg (nonempty_ba h0)]
    rfl
def phE (M : Nat) (l : List UInt8) : Lib.NumEnd Nat := if l = [] then .syntax else phx M 0 l
theorem pu16_52 (t : ByteArray) (hs : t.size ≤ 1000000) (w : World) (hT : Tbs w) : Calls Tryz.prog 125 #[.string t, .int .i64 16, .int .i64 52] w fun e w' => ∃ er, e = .returned (.tuple #[.int .u64 (QD.valU (2 ^ 52 - 1) (phE (2 ^ 52 - 1) t.data.toList) : Nat), er]) ∧ Gr w w' := by
  refine pub125 16 52 (2 ^ 52 - 1) t _ hs w hT ?_
  by_cases h0 : t.size = 0
  · obtain rfl := empty_ba h0
    exact (uint147_empty 16 52 w).mono fun e w' ⟨he, hw⟩ => ⟨he, by rw [hw]; exact Keeps.refl _ _⟩
  · refine (uint147_16_52 t h0 (by omega) w).mono fun e w' ⟨he, hw⟩ => ⟨?_, by rw [hw]; exact gr_bytes w t⟩
    rw [he, phE, if_neg (nonempty_ba h0)]
    rfl
theorem pu16_8 (t : ByteArray) (hs : t.size ≤ 1000000) (w : World) (hT : Tbs w) : Calls Tryz.prog 125 #[.string t, .int .i64 16, .int .i64 8] w fun e w' => ∃ er, e = .returned (.tuple #[.int .u64 (QD.valU 255 (phE 255 t.data.toList) : Nat), er]) ∧ Gr w w' := by
  refine pub125 16 8 255 t _ hs w hT ?_
  by_cases h0 : t.size = 0
  · obtain rfl := empty_ba h0
    exact (uint147_empty 16 8 w).mono fun e w' ⟨he, hw⟩ => ⟨he, by rw [hw]; exact Keeps.refl _ _⟩
  · refine (uint147_16_8 t h0 (by omega) w).mono fun e w' ⟨he, hw⟩ => ⟨?_, by rw [hw]; exact gr_bytes w t⟩
    rw [he, phE, if_neg (nonempty_ba h0)]
    rfl
theorem pu10_64 (t : ByteArray) (hs : t.size ≤ 1000000) (w : World) (hT : Tbs w) : Calls Tryz.prog 125 #[.string t, .int .i64 10, .int .i64 64] w fun e w' => ∃ er, e = .returned (.tuple #[.int .u64 (QD.valU (2 ^ 64 - 1) (Lib.parseUintB 64 t.data.toList) : Nat), er]) ∧ Gr w w' := by
  obtain ⟨te, pe, hv⟩ := hT.syn
  obtain ⟨te2, pe2, hv2⟩ := hT.rng
  cases hx : Lib.parseUintB 64 t.data.toList with
  | ok n =>
    refine (Tryz.strconv_ParseUint_10_at64_ok t (by omega) n hx w).mono fun e w' ⟨he, hw⟩ => ⟨_, he, ?_⟩
    rcases hw with rfl | rfl
    · exact Keeps.refl _ _
    · exact gr_bytes w t
  | «syntax» => exact (Tryz.strconv_ParseUint_10_at64_syntax t (by omega) hx _ w hv (.inr ⟨te, pe, rfl⟩)).mono fun e w' ⟨nn, he, _, _, hb⟩ => ⟨_, he, gr_belowW hb⟩
  | range => exact (Tryz.strconv_ParseUint_10_at64_range t (by omega) hx _ w hv2 (.inr ⟨te2, pe2, rfl⟩)).mono fun e w' ⟨nn, he, _, _, hb⟩ => ⟨_, he, gr_belowW hb⟩
/-- what ParseInt tells, its error aside -/
def piV (B : Nat) (l : List UInt8) : Int := match Lib.parseIntB B l with
  | .ok v => v
  | .syntax => 0
  | .range => Lib.intSat B l
theorem pi64 (t : ByteArray) (hs : t.size ≤ 1000000) (w : World) (hT : Tbs w) : Calls Tryz.prog 127 #[.string t, .int .i64 10, .int .i64 64] w fun e w' => ∃ er, e = .returned (.tuple #[.int .i64 (piV 64 t.data.toList), er]) ∧ Gr w w' := by
  obtain ⟨te, pe, hv⟩ := hT.syn
  obtain ⟨te2, pe2, hv2⟩ := hT.rng
  unfold piV
  cases hx : Lib.parseIntB 64 t.data.toList with
  | ok n =>
    refine (Tryz.strconv_ParseInt_10_at64_ok t (by omega) n hx w).mono fun e w' ⟨he, hw⟩ => ⟨_, he, ?_⟩
    rcases hw with rfl | ⟨t', rfl⟩
    · exact Keeps.refl _ _
    · exact gr_bytes w t'
  | «syntax» => exact (Tryz.strconv_ParseInt_10_at64_syntax t (by omega) hx _ w hv (.inr ⟨te, pe, rfl⟩)).mono fun e w' ⟨nn, he, _, _, hb⟩ => ⟨_, he, gr_belowW hb⟩
  | range => exact (Tryz.strconv_ParseInt_10_at64_range t (by omega) hx _ w hv2 (.inr ⟨te2, pe2, rfl⟩)).mono fun e w' ⟨nn, he, _, _, hb⟩ => ⟨_, he, gr_belowW hb⟩
theorem pi16 (t : ByteArray) (hs : t.size ≤ 1000000) (w : World) (hT : Tbs w) : Calls Tryz.prog 127 #[.string t, .int .i64 10, .int .i64 16] w fun e w' => ∃ er, e = .returned (.tuple #[.int .i64 (piV 16 t.data.toList), er]) ∧ Gr w w' := by
  obtain ⟨te, pe, hv⟩ := hT.syn
  obtain ⟨te2, pe2, hv2⟩ := hT.rng
  unfold piV
  cases hx : Lib.parseIntB 16 t.data.toList with
  | ok n =>
    refine (Tryz.strconv_ParseInt_10_at16_ok t (by omega) n hx w).mono fun e w' ⟨he, hw⟩ => ⟨_, he, ?_⟩
    rcases hw with rfl | ⟨t', rfl⟩
    · exact Keeps.refl _ _
    · exact gr_bytes w t'
  | «syntax» => exact (Tryz.strconv_ParseInt_10_at16_syntax t (by omega) hx _ w hv (.inr ⟨te, pe, rfl⟩)).mono fun e w' ⟨nn, he, _, _, hb⟩ => ⟨_, he, gr_belowW hb⟩
  | range => exact (Tryz.strconv_ParseInt_10_at16_range t (by omega) hx _ w hv2 (.inr ⟨te2, pe2, rfl⟩)).mono fun e w' ⟨nn, he, _, _, hb⟩ => ⟨_, he, gr_belowW hb⟩
end Go.Proofs.YtfoifmacobldbaaGreatDoor.Kit
