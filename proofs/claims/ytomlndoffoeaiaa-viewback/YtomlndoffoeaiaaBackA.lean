import Derived.Test.YtomlndoffoeaiaaViewD
namespace Go.Proofs.Ytomlndoffoeaiaa.Kit
open Go.RowKit Go.Deep
set_option linter.unusedVariables false

/-- an ink of the law's own -/
structure Mine (w wr : World) (P : Nat) (go : Option Nat) (most : Int) (bs : List Int) : Prop where
  ink : InkAt wr 115 P go most bs
  hp : w.heap.size ≤ P
  hg : ∀ g, go = some g → w.heap.size ≤ g
  keep : Keeps w wr (fun _ => False)
theorem Mine.step {w wr w' : World} {P : Nat} {go : Option Nat} {most : Int} {bs bs' : List Int} (h : Mine w wr P go most bs) (hd : InkDone wr w' 115 P go most bs') : ∃ go', Mine w w' P go' most bs' := by
  obtain ⟨go', i', k', g'⟩ := hd
  refine ⟨go', i', h.hp, fun g hg => ?_, h.keep.trans k' fun j hj e => ?_⟩
  · rcases g' with e | e
    · exact h.hg g (e ▸ hg)
    · have := e g hg; have := h.keep.size; omega
  · rcases e with e | e
    · have := h.hp; omega
    · have := h.hg j e; omega
theorem WatDone.none' {w w' : World} {rs : List (Int × Int)} (h : WatDone w w' none none rs) : Keeps w w' (fun _ => False) := by
  obtain ⟨_, _, k, _⟩ := h
  exact k.mono fun _ _ e => by rcases e with e | e <;> cases e

theorem leVal_leB (x : Int) (k : Nat) : leVal (leB x k) = x % 256 ^ k := by
  induction k with
  | zero => simp [leB, leVal, Int.emod_one]
  | succ k ih =>
    rw [leB_succ, leVal_append, ih, leB_length]
    have e : leVal [x / 256 ^ k % 256] = x / 256 ^ k % 256 := by simp [leVal]
    rw [e, Int.pow_succ]
    generalize hP : (256 : Int) ^ k = P
    have hP0 : 0 < P := by rw [← hP]; exact Int.pow_pos (by decide)
    have h1 := Int.emod_add_mul_ediv x (P * 256)
    have h2 := Int.emod_add_mul_ediv x P
    have h3 := Int.emod_add_mul_ediv (x / P) 256
    have h4 : x / (P * 256) = x / P / 256 := (Int.ediv_ediv_of_nonneg (by omega)).symm
    rw [h4, Int.mul_assoc] at h1
    generalize x / P / 256 = q at *
    rw [← h3] at h2
    rw [Int.mul_add] at h2
    omega

theorem push_toList (r : ByteArray) (b : UInt8) : (r.push b).data.toList = r.data.toList ++ [b] := by simp [ByteArray.push]
theorem foldl_push_bytes (bs : List UInt8) : ∀ r : ByteArray, ((bs.map fun b => (b.toNat : Int)).foldl (fun r n => r.push (UInt8.ofNat n.toNat)) r).data.toList = r.data.toList ++ bs := by
  induction bs with
  | nil => intro r; simp
  | cons b bs ih =>
    intro r
    rw [List.map_cons, List.foldl_cons, ih, push_toList]
    simp
theorem strOf_bytesOf (t : ByteArray) : strOf (bytesOf t) = t := by
  have h := foldl_push_bytes t.data.toList ByteArray.empty
  have e : (strOf (bytesOf t)).data.toList = t.data.toList := by
    unfold strOf bytesOf
    rw [h]; rfl
  have e2 : (strOf (bytesOf t)).data = t.data := Array.ext' e
  exact ByteArray.ext e2
theorem vtext_zero (ao : Option Addr) (n cap : Nat) (place : Int) (q gq : Option Nat) (rs : List (Int × Int)) (l : List Int) (m : Nat) (w : World) (h : m ≤ n) (hI : Looks w ao n cap place q gq rs l) :
    Calls Try.prog 34 #[viewV ao n cap place q, .int .i64 0, .int .i64 m] w fun e w' => e = .returned (.tuple #[.string (strOf (l.take m)), .int .i64 0]) ∧ WatDone w w' q gq (tellR q rs place (place + m)) := by
  simpa using vtext_in ao n cap place q gq rs l 0 m w (by omega) hI

set_option maxRecDepth 100000 in
set_option maxHeartbeats 8000000 in
theorem back_big (s : ByteArray) (x which : Int) (w : World) (hs : s.size ≤ 9223372036854775807) (hx0 : 0 ≤ x) (hx1 : x < 18446744073709551616) (hc0 : -9223372036854775808 ≤ which) (hc1 : which ≤ 9223372036854775807) (hbig : 16777216 - (2 : Int) ^ (pickV which 4).toNat < (s.size : Int)) :
    Calls Try.prog 6 #[.string s, .int .u64 x, .int .i64 which] w fun e w' => e = .returned (.bool true) ∧ Below w.heap.size w w' := by
  have hp := pickV_bd which 4 (by omega)
  obtain ⟨p, hpp⟩ : ∃ p : Nat, pickV which 4 = p := ⟨(pickV which 4).toNat, by omega⟩
  have hp4 : p < 4 := by omega
  clear hp
  rw [hpp, Int.toNat_natCast] at hbig
  have HBIG : Hid (16777216 - (2 : Int) ^ p < (s.size : Int)) := hbig
  clear hbig
  have HPP : Hid (pickV which 4 = p) := hpp
  clear hpp
  go_enter Try.func6, Try.ntmps6
  go_wp2
  go_loop [7, 8] (fun v i => ∃ k : Nat, k ≤ p ∧ i = .int .i64 k ∧ v = .int .i64 ((2 : Int) ^ k)) (fun _ i => p - (intOf i).toNat)
  case atStart => exact ⟨0, Nat.zero_le _, rfl, rfl⟩
  case round =>
    obtain ⟨k, hk, rfl, rfl⟩ := hrel
    have h2 : (2 : Int) ^ k ≤ 8 ∧ 1 ≤ (2 : Int) ^ k := by
      have : k = 0 ∨ k = 1 ∨ k = 2 ∨ k = 3 := by omega
      rcases this with rfl | rfl | rfl | rfl <;> decide
    obtain ⟨h2a, h2b⟩ := h2
    by_cases hlt : k < p
    · go_wp2_with (first | (go_at_call 33; refine (pick_any which 4 _ hc0 hc1 (by omega) (by omega)).mono ?_; rintro e w' ⟨rfl, rfl⟩; rw [HPP.out]))
      go_round
      case rel => exact ⟨k + 1, by omega, by go_num, by rw [Int.pow_succ, Int.mul_comm]⟩
      case measure => simp [intOf]; omega
    · obtain rfl : k = p := by omega
      obtain ⟨W, hW, hWw⟩ : ∃ W : Nat, (2 : Int) ^ k = W ∧ (W = 1 ∨ W = 2 ∨ W = 4 ∨ W = 8) := by
        have : k = 0 ∨ k = 1 ∨ k = 2 ∨ k = 3 := by omega
        rcases this with rfl | rfl | rfl | rfl
        · exact ⟨1, rfl, by omega⟩
        · exact ⟨2, rfl, by omega⟩
        · exact ⟨4, rfl, by omega⟩
        · exact ⟨8, rfl, by omega⟩
      have hbig := HBIG.out
      rw [hW] at h2a h2b hbig ⊢
      clear hW hlt HBIG
      have hwide : wideB W = true := (wideB_iff W).2 (by omega)
      go_wp2_with (first | (go_at_call 33; refine (pick_any which 4 _ hc0 hc1 (by omega) (by omega)).mono ?_; rintro e w' ⟨rfl, rfl⟩; rw [HPP.out]))
      obtain ⟨t, ht⟩ : ∃ t, t = s.extract 0 (16777216 - W) := ⟨_, rfl⟩
      have htl : min (16777216 - W) s.size = t.size := by rw [ht]; simp [ByteArray.size_extract]
      have htm : (t.size : Int) + W ≤ 16777216 := by rw [← htl]; omega
      rw [← ht, htl]
      clear ht htl hbig hs
      clear HPP hc0 hc1
      obtain ⟨most, hmost⟩ : ∃ most : Int, most = (t.size : Int) + W := ⟨_, rfl⟩
      have hcl : clamp ((t.size : Int) + W) = most := by rw [hmost]; unfold clamp; rw [if_neg (by omega), if_neg (by omega)]
      refine (newInk_any _ _).mono ?_
      rintro e w1 ⟨rfl, hw1⟩
      rw [hcl] at hw1
      have hM1 : Mine w w1 w.heap.size none most [] := by rw [hw1]; exact ⟨InkAt.new w 115 most, Nat.le_refl _, (fun _ h => by cases h), Keeps.none_alloc w _⟩
      have HM1 : Hid (Mine w w1 w.heap.size none most []) := hM1
      clear hM1 hw1 hcl
      go_wp2_with fail
      go_at_call 26
      refine (text_yes w.heap.size none most [] t _ HM1.out.ink (by omega) (by omega) (by simp; omega)).mono ?_
      rintro e w2 ⟨rfl, D2⟩
      obtain ⟨go2, hM2⟩ := HM1.out.step D2
      have HM2 : Hid (Mine w w2 w.heap.size go2 most (bytesOf t)) := hM2
      clear D2 hM2 HM1
      go_wp2_with fail
      go_at_call 22
      refine (number_yes w.heap.size go2 most (bytesOf t) x W _ HM2.out.ink (by omega) (by omega) (by rw [bytesOf_length]; omega) (by omega) hwide).mono ?_
      rintro e w3 ⟨rfl, D3⟩
      obtain ⟨go3, hM3⟩ := HM2.out.step D3
      obtain ⟨bs, hbs⟩ : ∃ bs, bs = bytesOf t ++ leB x W := ⟨_, rfl⟩
      rw [← hbs] at hM3
      have HM3 : Hid (Mine w w3 w.heap.size go3 most bs) := hM3
      have HBS : Hid (bs = bytesOf t ++ leB x W) := hbs
      have hbl : bs.length = t.size + W := by rw [hbs]; simp [bytesOf_length, leB_length]
      clear D3 hM3 HM2 hbs
      go_wp2_with fail
      go_at_call 28
      refine (fill_no w.heap.size go3 most bs 1 0 _ HM3.out.ink (by omega) (by omega) (by omega) (by omega) (by omega)).mono ?_
      rintro e w4 ⟨rfl, D4⟩
      obtain ⟨go4, hM4⟩ := HM3.out.step D4
      have HM4 : Hid (Mine w w4 w.heap.size go4 most bs) := hM4
      clear D4 hM4 HM3
      go_wp2_with fail
      go_at_call 23
      refine (bytes_any w.heap.size go4 most bs _ HM4.out.ink (by omega)).mono ?_
      rintro e w5 ⟨rfl, hO5, hB5⟩
      have HY5 : Hid (BytesAt w5 (some ⟨w4.heap.size, 0, none⟩) bs.length bs) := BytesAt.ofRow rfl hO5
      have HK5 : Hid (Keeps w w5 (fun _ => False)) := HM4.out.keep.trans (Keeps.below_none hB5) fun _ _ h => h
      clear hO5 hB5 HM4
      go_wp2_with fail
      go_at_call 14
      refine (of_any _ _ _ _).mono ?_
      rintro e w6 ⟨rfl, K6⟩
      have HK6 : Hid (Keeps w w6 (fun _ => False)) := HK5.out.trans K6 fun _ _ h => h
      have HY6 : Hid (BytesAt w6 (some ⟨w4.heap.size, 0, none⟩) bs.length bs) := HY5.out.kept K6 (fun _ _ _ _ => id)
      clear HK5 HY5 K6
      unfold viewV
      go_wp2_with fail
      obtain ⟨W6, hW6⟩ : ∃ W6, W6 = w6.alloc (.cells #[.slice (some ⟨w4.heap.size, 0, none⟩) (t.size + W) (t.size + W), .int .i64 0, .pointer none] 37) := ⟨_, rfl⟩
      have HKW : Hid (Keeps w6 W6 (fun _ => False)) := by rw [hW6]; exact Keeps.none_alloc w6 _
      have HL6 : Hid (Looks W6 (some ⟨w4.heap.size, 0, none⟩) (t.size + W) (t.size + W) 0 none none [] bs) := by
        have hy := HY6.out.kept HKW.out (fun _ _ _ _ => id)
        rw [hbl] at hy
        refine ⟨⟨Nat.le_refl _, by omega, .inr ⟨_, _, rfl⟩⟩, hy, hbl, ?_, ⟨rfl, rfl⟩, ⟨by omega, by omega⟩, by simp, fun _ _ _ _ => ⟨by simp, by simp⟩⟩
        intro c hc
        rw [HBS.out] at hc
        rcases List.mem_append.1 hc with h | h
        · obtain ⟨b, _, rfl⟩ := List.mem_map.1 h
          have := UInt8.toNat_lt b; omega
        · exact leB_bytes x W c h
      obtain ⟨c, hcc⟩ : ∃ c, c = x % 256 ^ W := ⟨_, rfl⟩
      have HLD : Hid (leVal ((bs.drop t.size).take W) = c) := by
        show _ = _
        rw [HBS.out, List.drop_left' (bytesOf_length t), List.take_of_length_le (by rw [leB_length]; exact Nat.le_refl _), leVal_leB, hcc]
      have HCC : Hid (c = x % 256 ^ W) := hcc
      clear hcc
      have HTX : Hid (strOf (bs.take t.size) = t) := by
        show _ = _
        rw [HBS.out, List.take_left' (bytesOf_length t), strOf_bytesOf]
      have HBX : Hid (∀ w', Keeps W6 w' (fun _ => False) → w'.cell? ⟨w6.heap.size, 0, none⟩ = some (.slice (some ⟨w4.heap.size, 0, none⟩) (t.size + W) (t.size + W)) ∧ w'.cell? ⟨w6.heap.size, 1, none⟩ = some (.int .i64 0) ∧ w'.cell? ⟨w6.heap.size, 2, none⟩ = some (.pointer none)) := by
        intro w' hk
        rw [hW6] at hk
        exact box3 hk id
      rw [← hW6]
      clear hW6 HY6 HBS
      refine (load_in _ _ _ 0 none none [] bs t.size W W6 hwide (by omega) HL6.out).mono ?_
      rintro e w7 ⟨rfl, D7⟩
      rw [HLD.out]
      have HK7 : Hid (Keeps W6 w7 (fun _ => False)) := D7.none'
      clear D7
      obtain ⟨b70, b71, b72⟩ := HBX.out w7 HK7.out
      go_wp2_with fail
      go_at_call 20
      refine (signed_in _ _ _ 0 none none [] bs t.size W w7 hwide (by omega) (HL6.out.kept HK7.out)).mono ?_
      rintro e w8 ⟨rfl, D8⟩
      rw [HLD.out]
      have HK8 : Hid (Keeps W6 w8 (fun _ => False)) := HK7.out.trans D8.none' fun _ _ h => h
      clear D8 b70 b71 b72
      obtain ⟨b80, b81, b82⟩ := HBX.out w8 HK8.out
      go_wp2_with fail
      go_at_call 34
      refine (vtext_zero _ _ _ 0 none none [] bs t.size w8 (by omega) (HL6.out.kept HK8.out)).mono ?_
      rintro e w9 ⟨rfl, D9⟩
      rw [HTX.out]
      have HK9 : Hid (Keeps W6 w9 (fun _ => False)) := HK8.out.trans D9.none' fun _ _ h => h
      have HKZ : Hid (Keeps w w9 (fun _ => False)) := (HK6.out.trans HKW.out fun _ _ h => h).trans HK9.out fun _ _ h => h
      clear D9 b80 b81 b82 HK6 HK7 HK8 HLD HTX HL6 HKW
      obtain ⟨b0, b1, b2⟩ := HBX.out w9 HK9.out
      clear HBX HK9
      obtain ⟨z, hz⟩ : ∃ z, z = signV c W := ⟨_, rfl⟩
      rw [← hz]
      rcases hWw with rfl | rfl | rfl | rfl
      · have hc' : c = x % 256 := by simpa using HCC.out
        have hz' : z = if c < 128 then c else c - 256 := by rw [hz]; simp [signV]
        clear HCC hz
        have HZ : Hid ((c < 128 ∧ z = c) ∨ (128 ≤ c ∧ z = c - 256)) := by show _ ∨ _; rw [hz']; split <;> omega
        have hcb : 0 ≤ c ∧ c < 256 := by omega
        obtain ⟨hcb0, hcb1⟩ := hcb
        have HC : Hid (c = x % 256) := hc'
        clear hz' hc'
        go_wp2
        go_loop [20, 21] (fun y i => ∃ (k : Nat) (v : Int), 1 ≤ k ∧ k ≤ 8 ∧ i = .int .i64 k ∧ y = .int .u64 v ∧ 0 ≤ v ∧ v < 18446744073709551616 ∧ Hid ((k = 1 → v = x) ∧ (1 < k → v = c))) (fun _ i => 8 - (intOf i).toNat)
        case atStart => exact ⟨1, x, by omega, by omega, rfl, rfl, hx0, hx1, fun _ => rfl, fun h => absurd h (by omega)⟩
        case round =>
          obtain ⟨k, v, hk1, hk2, rfl, rfl, hv0, hv1, HV⟩ := hrel
          by_cases hlt : k < 8
          · have HV2 : Hid (v % 256 = c) := by
              show _ = _
              by_cases e : k = 1
              · rw [HV.out.1 e, HC.out]
              · have := HV.out.2 (by omega); omega
            clear hmost hbl htm h2a h2b hwide hp4 hk HC HZ HV b0 b1 b2
            go_wp2
            go_round
            case rel => exact ⟨k + 1, v % 256, by omega, by omega, by go_num, rfl, by omega, by omega, fun h => absurd h (by omega), fun _ => HV2.out⟩
            case measure => simp [intOf]; omega
          · obtain rfl : k = 8 := by omega
            have hvc : v = c := by
              by_cases e : 8 = 1
              · have := HV.out.1 e; have := HC.out; omega
              · exact HV.out.2 (by omega)
            subst hvc
            clear HV
            go_wp2
            obtain ⟨u, hu⟩ : ∃ u, u = IntKind.u64.wrap z := ⟨_, rfl⟩
            rw [← hu]
            have hub : 0 ≤ u ∧ u < 18446744073709551616 ∧ u % 256 = v := by
              have e : IntKind.u64.wrap z = z % 18446744073709551616 := by simp [IntKind.wrap, IntKind.bits, IntKind.signed]
              rw [hu, e]
              rcases HZ.out with ⟨h1, h2⟩ | ⟨h1, h2⟩ <;> omega
            obtain ⟨hu0, hu1, hum⟩ := hub
            have HU : Hid (u % 256 = v) := hum
            clear hu hum
            go_loop [22, 23] (fun y i => ∃ (k : Nat) (r : Int), 1 ≤ k ∧ k ≤ 8 ∧ i = .int .i64 k ∧ y = .int .u64 r ∧ 0 ≤ r ∧ r < 18446744073709551616 ∧ Hid ((k = 1 → r = u) ∧ (1 < k → r = v))) (fun _ i => 8 - (intOf i).toNat)
            case atStart => exact ⟨1, u, by omega, by omega, rfl, rfl, hu0, hu1, fun _ => rfl, fun h => absurd h (by omega)⟩
            case round =>
              obtain ⟨k, r, hk1, hk2, rfl, rfl, hr0, hr1, HR⟩ := hrel
              by_cases hlt : k < 8
              · have HR2 : Hid (r % 256 = v) := by
                  show _ = _
                  by_cases e : k = 1
                  · rw [HR.out.1 e, HU.out]
                  · have := HR.out.2 (by omega); omega
                clear hmost hbl htm h2a h2b hwide hp4 hk HC HZ HR HU b0 b1 b2
                go_wp2
                go_round
                case rel => exact ⟨k + 1, r % 256, by omega, by omega, by go_num, rfl, by omega, by omega, fun h => absurd h (by omega), fun _ => HR2.out⟩
                case measure => simp [intOf]; omega
              · obtain rfl : k = 8 := by omega
                have hrv : r = v := by
                  by_cases e : 8 = 1
                  · have := HR.out.1 e; have := HU.out; omega
                  · exact HR.out.2 (by omega)
                subst hrv
                clear HR HU hmost hbl h2a h2b hwide hp4 hk HC
                rcases HZ.out with ⟨h1, h2⟩ | ⟨h1, h2⟩
                · have hzn : ¬ z < 0 := by omega
                  have hd1 : decide (z < 0) = false := decide_eq_false hzn
                  have hd2 : decide (128 ≤ r) = false := decide_eq_false (by omega)
                  clear h2 HZ hzn h1 hk1 hk2 hlt
                  go_wp2_with (first | (go_at_call 16; refine (vlen_any _ _ _ 0 none _).mono ?_; rintro e w' ⟨rfl, KZ⟩))
                  go_ret
                  exact ⟨rfl, (HKZ.out.trans KZ fun _ _ h => h).below (fun _ _ h => h.elim) (Nat.le_refl _)⟩
                · have hzn : z < 0 := by omega
                  clear h2 HZ
                  go_wp2_with (first | (go_at_call 16; refine (vlen_any _ _ _ 0 none _).mono ?_; rintro e w' ⟨rfl, KZ⟩))
                  go_ret
                  exact ⟨rfl, (HKZ.out.trans KZ fun _ _ h => h).below (fun _ _ h => h.elim) (Nat.le_refl _)⟩
      · have hc' : c = x % 65536 := by simpa using HCC.out
        have hz' : z = if c < 32768 then c else c - 65536 := by rw [hz]; simp [signV]
        clear HCC hz
        have HZ : Hid ((c < 32768 ∧ z = c) ∨ (32768 ≤ c ∧ z = c - 65536)) := by show _ ∨ _; rw [hz']; split <;> omega
        have hcb : 0 ≤ c ∧ c < 65536 := by omega
        obtain ⟨hcb0, hcb1⟩ := hcb
        have HC : Hid (c = x % 65536) := hc'
        clear hz' hc'
        go_wp2
        go_loop [20, 21] (fun y i => ∃ (k : Nat) (v : Int), 2 ≤ k ∧ k ≤ 8 ∧ i = .int .i64 k ∧ y = .int .u64 v ∧ 0 ≤ v ∧ v < 18446744073709551616 ∧ Hid ((k = 2 → v = x) ∧ (2 < k → v = c))) (fun _ i => 8 - (intOf i).toNat)
        case atStart => exact ⟨2, x, by omega, by omega, rfl, rfl, hx0, hx1, fun _ => rfl, fun h => absurd h (by omega)⟩
        case round =>
          obtain ⟨k, v, hk1, hk2, rfl, rfl, hv0, hv1, HV⟩ := hrel
          by_cases hlt : k < 8
          · have HV2 : Hid (v % 65536 = c) := by
              show _ = _
              by_cases e : k = 2
              · rw [HV.out.1 e, HC.out]
              · have := HV.out.2 (by omega); omega
            clear hmost hbl htm h2a h2b hwide hp4 hk HC HZ HV b0 b1 b2
            go_wp2
            go_round
            case rel => exact ⟨k + 1, v % 65536, by omega, by omega, by go_num, rfl, by omega, by omega, fun h => absurd h (by omega), fun _ => HV2.out⟩
            case measure => simp [intOf]; omega
          · obtain rfl : k = 8 := by omega
            have hvc : v = c := by
              by_cases e : 8 = 2
              · have := HV.out.1 e; have := HC.out; omega
              · exact HV.out.2 (by omega)
            subst hvc
            clear HV
            go_wp2
            obtain ⟨u, hu⟩ : ∃ u, u = IntKind.u64.wrap z := ⟨_, rfl⟩
            rw [← hu]
            have hub : 0 ≤ u ∧ u < 18446744073709551616 ∧ u % 65536 = v := by
              have e : IntKind.u64.wrap z = z % 18446744073709551616 := by simp [IntKind.wrap, IntKind.bits, IntKind.signed]
              rw [hu, e]
              rcases HZ.out with ⟨h1, h2⟩ | ⟨h1, h2⟩ <;> omega
            obtain ⟨hu0, hu1, hum⟩ := hub
            have HU : Hid (u % 65536 = v) := hum
            clear hu hum
            go_loop [22, 23] (fun y i => ∃ (k : Nat) (r : Int), 2 ≤ k ∧ k ≤ 8 ∧ i = .int .i64 k ∧ y = .int .u64 r ∧ 0 ≤ r ∧ r < 18446744073709551616 ∧ Hid ((k = 2 → r = u) ∧ (2 < k → r = v))) (fun _ i => 8 - (intOf i).toNat)
            case atStart => exact ⟨2, u, by omega, by omega, rfl, rfl, hu0, hu1, fun _ => rfl, fun h => absurd h (by omega)⟩
            case round =>
              obtain ⟨k, r, hk1, hk2, rfl, rfl, hr0, hr1, HR⟩ := hrel
              by_cases hlt : k < 8
              · have HR2 : Hid (r % 65536 = v) := by
                  show _ = _
                  by_cases e : k = 2
                  · rw [HR.out.1 e, HU.out]
                  · have := HR.out.2 (by omega); omega
                clear hmost hbl htm h2a h2b hwide hp4 hk HC HZ HR HU b0 b1 b2
                go_wp2
                go_round
                case rel => exact ⟨k + 1, r % 65536, by omega, by omega, by go_num, rfl, by omega, by omega, fun h => absurd h (by omega), fun _ => HR2.out⟩
                case measure => simp [intOf]; omega
              · obtain rfl : k = 8 := by omega
                have hrv : r = v := by
                  by_cases e : 8 = 2
                  · have := HR.out.1 e; have := HU.out; omega
                  · exact HR.out.2 (by omega)
                subst hrv
                clear HR HU hmost hbl h2a h2b hwide hp4 hk HC
                rcases HZ.out with ⟨h1, h2⟩ | ⟨h1, h2⟩
                · have hzn : ¬ z < 0 := by omega
                  have hd1 : decide (z < 0) = false := decide_eq_false hzn
                  have hd2 : decide (32768 ≤ r) = false := decide_eq_false (by omega)
                  clear h2 HZ hzn h1 hk1 hk2 hlt
                  go_wp2_with (first | (go_at_call 16; refine (vlen_any _ _ _ 0 none _).mono ?_; rintro e w' ⟨rfl, KZ⟩))
                  go_ret
                  exact ⟨rfl, (HKZ.out.trans KZ fun _ _ h => h).below (fun _ _ h => h.elim) (Nat.le_refl _)⟩
                · have hzn : z < 0 := by omega
                  clear h2 HZ
                  go_wp2_with (first | (go_at_call 16; refine (vlen_any _ _ _ 0 none _).mono ?_; rintro e w' ⟨rfl, KZ⟩))
                  go_ret
                  exact ⟨rfl, (HKZ.out.trans KZ fun _ _ h => h).below (fun _ _ h => h.elim) (Nat.le_refl _)⟩
      · have hc' : c = x % 4294967296 := by simpa using HCC.out
        have hz' : z = if c < 2147483648 then c else c - 4294967296 := by rw [hz]; simp [signV]
        clear HCC hz
        have HZ : Hid ((c < 2147483648 ∧ z = c) ∨ (2147483648 ≤ c ∧ z = c - 4294967296)) := by show _ ∨ _; rw [hz']; split <;> omega
        have hcb : 0 ≤ c ∧ c < 4294967296 := by omega
        obtain ⟨hcb0, hcb1⟩ := hcb
        have HC : Hid (c = x % 4294967296) := hc'
        clear hz' hc'
        go_wp2
        go_loop [20, 21] (fun y i => ∃ (k : Nat) (v : Int), 4 ≤ k ∧ k ≤ 8 ∧ i = .int .i64 k ∧ y = .int .u64 v ∧ 0 ≤ v ∧ v < 18446744073709551616 ∧ Hid ((k = 4 → v = x) ∧ (4 < k → v = c))) (fun _ i => 8 - (intOf i).toNat)
        case atStart => exact ⟨4, x, by omega, by omega, rfl, rfl, hx0, hx1, fun _ => rfl, fun h => absurd h (by omega)⟩
        case round =>
          obtain ⟨k, v, hk1, hk2, rfl, rfl, hv0, hv1, HV⟩ := hrel
          by_cases hlt : k < 8
          · have HV2 : Hid (v % 4294967296 = c) := by
              show _ = _
              by_cases e : k = 4
              · rw [HV.out.1 e, HC.out]
              · have := HV.out.2 (by omega); omega
            clear hmost hbl htm h2a h2b hwide hp4 hk HC HZ HV b0 b1 b2
            go_wp2
            go_round
            case rel => exact ⟨k + 1, v % 4294967296, by omega, by omega, by go_num, rfl, by omega, by omega, fun h => absurd h (by omega), fun _ => HV2.out⟩
            case measure => simp [intOf]; omega
          · obtain rfl : k = 8 := by omega
            have hvc : v = c := by
              by_cases e : 8 = 4
              · have := HV.out.1 e; have := HC.out; omega
              · exact HV.out.2 (by omega)
            subst hvc
            clear HV
            go_wp2
            obtain ⟨u, hu⟩ : ∃ u, u = IntKind.u64.wrap z := ⟨_, rfl⟩
            rw [← hu]
            have hub : 0 ≤ u ∧ u < 18446744073709551616 ∧ u % 4294967296 = v := by
              have e : IntKind.u64.wrap z = z % 18446744073709551616 := by simp [IntKind.wrap, IntKind.bits, IntKind.signed]
              rw [hu, e]
              rcases HZ.out with ⟨h1, h2⟩ | ⟨h1, h2⟩ <;> omega
            obtain ⟨hu0, hu1, hum⟩ := hub
            have HU : Hid (u % 4294967296 = v) := hum
            clear hu hum
            go_loop [22, 23] (fun y i => ∃ (k : Nat) (r : Int), 4 ≤ k ∧ k ≤ 8 ∧ i = .int .i64 k ∧ y = .int .u64 r ∧ 0 ≤ r ∧ r < 18446744073709551616 ∧ Hid ((k = 4 → r = u) ∧ (4 < k → r = v))) (fun _ i => 8 - (intOf i).toNat)
            case atStart => exact ⟨4, u, by omega, by omega, rfl, rfl, hu0, hu1, fun _ => rfl, fun h => absurd h (by omega)⟩
            case round =>
              obtain ⟨k, r, hk1, hk2, rfl, rfl, hr0, hr1, HR⟩ := hrel
              by_cases hlt : k < 8
              · have HR2 : Hid (r % 4294967296 = v) := by
                  show _ = _
                  by_cases e : k = 4
                  · rw [HR.out.1 e, HU.out]
                  · have := HR.out.2 (by omega); omega
                clear hmost hbl htm h2a h2b hwide hp4 hk HC HZ HR HU b0 b1 b2
                go_wp2
                go_round
                case rel => exact ⟨k + 1, r % 4294967296, by omega, by omega, by go_num, rfl, by omega, by omega, fun h => absurd h (by omega), fun _ => HR2.out⟩
                case measure => simp [intOf]; omega
              · obtain rfl : k = 8 := by omega
                have hrv : r = v := by
                  by_cases e : 8 = 4
                  · have := HR.out.1 e; have := HU.out; omega
                  · exact HR.out.2 (by omega)
                subst hrv
                clear HR HU hmost hbl h2a h2b hwide hp4 hk HC
                rcases HZ.out with ⟨h1, h2⟩ | ⟨h1, h2⟩
                · have hzn : ¬ z < 0 := by omega
                  have hd1 : decide (z < 0) = false := decide_eq_false hzn
                  have hd2 : decide (2147483648 ≤ r) = false := decide_eq_false (by omega)
                  clear h2 HZ hzn h1 hk1 hk2 hlt
                  go_wp2_with (first | (go_at_call 16; refine (vlen_any _ _ _ 0 none _).mono ?_; rintro e w' ⟨rfl, KZ⟩))
                  go_ret
                  exact ⟨rfl, (HKZ.out.trans KZ fun _ _ h => h).below (fun _ _ h => h.elim) (Nat.le_refl _)⟩
                · have hzn : z < 0 := by omega
                  clear h2 HZ
                  go_wp2_with (first | (go_at_call 16; refine (vlen_any _ _ _ 0 none _).mono ?_; rintro e w' ⟨rfl, KZ⟩))
                  go_ret
                  exact ⟨rfl, (HKZ.out.trans KZ fun _ _ h => h).below (fun _ _ h => h.elim) (Nat.le_refl _)⟩
      · have hc' : c = x % 18446744073709551616 := by simpa using HCC.out
        have hz' : z = if c < 9223372036854775808 then c else c - 18446744073709551616 := by rw [hz]; simp [signV]
        clear HCC hz
        have HZ : Hid ((c < 9223372036854775808 ∧ z = c) ∨ (9223372036854775808 ≤ c ∧ z = c - 18446744073709551616)) := by show _ ∨ _; rw [hz']; split <;> omega
        have hcb : 0 ≤ c ∧ c < 18446744073709551616 := by omega
        obtain ⟨hcb0, hcb1⟩ := hcb
        have HC : Hid (c = x % 18446744073709551616) := hc'
        clear hz' hc'
        go_wp2
        go_loop [20, 21] (fun y i => ∃ (k : Nat) (v : Int), 8 ≤ k ∧ k ≤ 8 ∧ i = .int .i64 k ∧ y = .int .u64 v ∧ 0 ≤ v ∧ v < 18446744073709551616 ∧ Hid ((k = 8 → v = x) ∧ (8 < k → v = c))) (fun _ i => 8 - (intOf i).toNat)
        case atStart => exact ⟨8, x, by omega, by omega, rfl, rfl, hx0, hx1, fun _ => rfl, fun h => absurd h (by omega)⟩
        case round =>
          obtain ⟨k, v, hk1, hk2, rfl, rfl, hv0, hv1, HV⟩ := hrel
          by_cases hlt : k < 8
          · exact absurd hlt (by omega)
          · obtain rfl : k = 8 := by omega
            have hvc : v = c := by
              by_cases e : 8 = 8
              · have := HV.out.1 e; have := HC.out; omega
              · exact HV.out.2 (by omega)
            subst hvc
            clear HV
            go_wp2
            obtain ⟨u, hu⟩ : ∃ u, u = IntKind.u64.wrap z := ⟨_, rfl⟩
            rw [← hu]
            have hub : 0 ≤ u ∧ u < 18446744073709551616 ∧ u % 18446744073709551616 = v := by
              have e : IntKind.u64.wrap z = z % 18446744073709551616 := by simp [IntKind.wrap, IntKind.bits, IntKind.signed]
              rw [hu, e]
              rcases HZ.out with ⟨h1, h2⟩ | ⟨h1, h2⟩ <;> omega
            obtain ⟨hu0, hu1, hum⟩ := hub
            have HU : Hid (u % 18446744073709551616 = v) := hum
            clear hu hum
            go_loop [22, 23] (fun y i => ∃ (k : Nat) (r : Int), 8 ≤ k ∧ k ≤ 8 ∧ i = .int .i64 k ∧ y = .int .u64 r ∧ 0 ≤ r ∧ r < 18446744073709551616 ∧ Hid ((k = 8 → r = u) ∧ (8 < k → r = v))) (fun _ i => 8 - (intOf i).toNat)
            case atStart => exact ⟨8, u, by omega, by omega, rfl, rfl, hu0, hu1, fun _ => rfl, fun h => absurd h (by omega)⟩
            case round =>
              obtain ⟨k, r, hk1, hk2, rfl, rfl, hr0, hr1, HR⟩ := hrel
              by_cases hlt : k < 8
              · exact absurd hlt (by omega)
              · obtain rfl : k = 8 := by omega
                have hrv : r = v := by
                  by_cases e : 8 = 8
                  · have := HR.out.1 e; have := HU.out; omega
                  · exact HR.out.2 (by omega)
                subst hrv
                clear HR HU hmost hbl h2a h2b hwide hp4 hk HC
                rcases HZ.out with ⟨h1, h2⟩ | ⟨h1, h2⟩
                · have hzn : ¬ z < 0 := by omega
                  have hd1 : decide (z < 0) = false := decide_eq_false hzn
                  have hd2 : decide (9223372036854775808 ≤ r) = false := decide_eq_false (by omega)
                  clear h2 HZ hzn h1 hk1 hk2 hlt
                  go_wp2_with (first | (go_at_call 16; refine (vlen_any _ _ _ 0 none _).mono ?_; rintro e w' ⟨rfl, KZ⟩))
                  go_ret
                  exact ⟨rfl, (HKZ.out.trans KZ fun _ _ h => h).below (fun _ _ h => h.elim) (Nat.le_refl _)⟩
                · have hzn : z < 0 := by omega
                  clear h2 HZ
                  go_wp2_with (first | (go_at_call 16; refine (vlen_any _ _ _ 0 none _).mono ?_; rintro e w' ⟨rfl, KZ⟩))
                  go_ret
                  exact ⟨rfl, (HKZ.out.trans KZ fun _ _ h => h).below (fun _ _ h => h.elim) (Nat.le_refl _)⟩

set_option maxRecDepth 100000 in
set_option maxHeartbeats 8000000 in
theorem back_small (s : ByteArray) (x which : Int) (w : World) (hx0 : 0 ≤ x) (hx1 : x < 18446744073709551616) (hc0 : -9223372036854775808 ≤ which) (hc1 : which ≤ 9223372036854775807) (hbig : ¬ 16777216 - (2 : Int) ^ (pickV which 4).toNat < (s.size : Int)) :
    Calls Try.prog 6 #[.string s, .int .u64 x, .int .i64 which] w fun e w' => e = .returned (.bool true) ∧ Below w.heap.size w w' := by
  have hp := pickV_bd which 4 (by omega)
  obtain ⟨p, hpp⟩ : ∃ p : Nat, pickV which 4 = p := ⟨(pickV which 4).toNat, by omega⟩
  have hp4 : p < 4 := by omega
  clear hp
  rw [hpp, Int.toNat_natCast] at hbig
  have HBIG : Hid (¬ 16777216 - (2 : Int) ^ p < (s.size : Int)) := hbig
  clear hbig
  have HPP : Hid (pickV which 4 = p) := hpp
  clear hpp
  go_enter Try.func6, Try.ntmps6
  go_wp2
  go_loop [7, 8] (fun v i => ∃ k : Nat, k ≤ p ∧ i = .int .i64 k ∧ v = .int .i64 ((2 : Int) ^ k)) (fun _ i => p - (intOf i).toNat)
  case atStart => exact ⟨0, Nat.zero_le _, rfl, rfl⟩
  case round =>
    obtain ⟨k, hk, rfl, rfl⟩ := hrel
    have h2 : (2 : Int) ^ k ≤ 8 ∧ 1 ≤ (2 : Int) ^ k := by
      have : k = 0 ∨ k = 1 ∨ k = 2 ∨ k = 3 := by omega
      rcases this with rfl | rfl | rfl | rfl <;> decide
    obtain ⟨h2a, h2b⟩ := h2
    by_cases hlt : k < p
    · go_wp2_with (first | (go_at_call 33; refine (pick_any which 4 _ hc0 hc1 (by omega) (by omega)).mono ?_; rintro e w' ⟨rfl, rfl⟩; rw [HPP.out]))
      go_round
      case rel => exact ⟨k + 1, by omega, by go_num, by rw [Int.pow_succ, Int.mul_comm]⟩
      case measure => simp [intOf]; omega
    · obtain rfl : k = p := by omega
      obtain ⟨W, hW, hWw⟩ : ∃ W : Nat, (2 : Int) ^ k = W ∧ (W = 1 ∨ W = 2 ∨ W = 4 ∨ W = 8) := by
        have : k = 0 ∨ k = 1 ∨ k = 2 ∨ k = 3 := by omega
        rcases this with rfl | rfl | rfl | rfl
        · exact ⟨1, rfl, by omega⟩
        · exact ⟨2, rfl, by omega⟩
        · exact ⟨4, rfl, by omega⟩
        · exact ⟨8, rfl, by omega⟩
      have hbig := HBIG.out
      rw [hW] at h2a h2b hbig ⊢
      clear hW hlt HBIG
      have hwide : wideB W = true := (wideB_iff W).2 (by omega)
      have htm : (s.size : Int) + W ≤ 16777216 := by omega
      clear hbig
      rename ByteArray => t
      go_wp2_with (first | (go_at_call 33; refine (pick_any which 4 _ hc0 hc1 (by omega) (by omega)).mono ?_; rintro e w' ⟨rfl, rfl⟩; rw [HPP.out]))
      clear HPP hc0 hc1
      obtain ⟨most, hmost⟩ : ∃ most : Int, most = (t.size : Int) + W := ⟨_, rfl⟩
      have hcl : clamp ((t.size : Int) + W) = most := by rw [hmost]; unfold clamp; rw [if_neg (by omega), if_neg (by omega)]
      refine (newInk_any _ _).mono ?_
      rintro e w1 ⟨rfl, hw1⟩
      rw [hcl] at hw1
      have hM1 : Mine w w1 w.heap.size none most [] := by rw [hw1]; exact ⟨InkAt.new w 115 most, Nat.le_refl _, (fun _ h => by cases h), Keeps.none_alloc w _⟩
      have HM1 : Hid (Mine w w1 w.heap.size none most []) := hM1
      clear hM1 hw1 hcl
      go_wp2_with fail
      go_at_call 26
      refine (text_yes w.heap.size none most [] t _ HM1.out.ink (by omega) (by omega) (by simp; omega)).mono ?_
      rintro e w2 ⟨rfl, D2⟩
      obtain ⟨go2, hM2⟩ := HM1.out.step D2
      have HM2 : Hid (Mine w w2 w.heap.size go2 most (bytesOf t)) := hM2
      clear D2 hM2 HM1
      go_wp2_with fail
      go_at_call 22
      refine (number_yes w.heap.size go2 most (bytesOf t) x W _ HM2.out.ink (by omega) (by omega) (by rw [bytesOf_length]; omega) (by omega) hwide).mono ?_
      rintro e w3 ⟨rfl, D3⟩
      obtain ⟨go3, hM3⟩ := HM2.out.step D3
      obtain ⟨bs, hbs⟩ : ∃ bs, bs = bytesOf t ++ leB x W := ⟨_, rfl⟩
      rw [← hbs] at hM3
      have HM3 : Hid (Mine w w3 w.heap.size go3 most bs) := hM3
      have HBS : Hid (bs = bytesOf t ++ leB x W) := hbs
      have hbl : bs.length = t.size + W := by rw [hbs]; simp [bytesOf_length, leB_length]
      clear D3 hM3 HM2 hbs
      go_wp2_with fail
      go_at_call 28
      refine (fill_no w.heap.size go3 most bs 1 0 _ HM3.out.ink (by omega) (by omega) (by omega) (by omega) (by omega)).mono ?_
      rintro e w4 ⟨rfl, D4⟩
      obtain ⟨go4, hM4⟩ := HM3.out.step D4
      have HM4 : Hid (Mine w w4 w.heap.size go4 most bs) := hM4
      clear D4 hM4 HM3
      go_wp2_with fail
      go_at_call 23
      refine (bytes_any w.heap.size go4 most bs _ HM4.out.ink (by omega)).mono ?_
      rintro e w5 ⟨rfl, hO5, hB5⟩
      have HY5 : Hid (BytesAt w5 (some ⟨w4.heap.size, 0, none⟩) bs.length bs) := BytesAt.ofRow rfl hO5
      have HK5 : Hid (Keeps w w5 (fun _ => False)) := HM4.out.keep.trans (Keeps.below_none hB5) fun _ _ h => h
      clear hO5 hB5 HM4
      go_wp2_with fail
      go_at_call 14
      refine (of_any _ _ _ _).mono ?_
      rintro e w6 ⟨rfl, K6⟩
      have HK6 : Hid (Keeps w w6 (fun _ => False)) := HK5.out.trans K6 fun _ _ h => h
      have HY6 : Hid (BytesAt w6 (some ⟨w4.heap.size, 0, none⟩) bs.length bs) := HY5.out.kept K6 (fun _ _ _ _ => id)
      clear HK5 HY5 K6
      unfold viewV
      go_wp2_with fail
      obtain ⟨W6, hW6⟩ : ∃ W6, W6 = w6.alloc (.cells #[.slice (some ⟨w4.heap.size, 0, none⟩) (t.size + W) (t.size + W), .int .i64 0, .pointer none] 37) := ⟨_, rfl⟩
      have HKW : Hid (Keeps w6 W6 (fun _ => False)) := by rw [hW6]; exact Keeps.none_alloc w6 _
      have HL6 : Hid (Looks W6 (some ⟨w4.heap.size, 0, none⟩) (t.size + W) (t.size + W) 0 none none [] bs) := by
        have hy := HY6.out.kept HKW.out (fun _ _ _ _ => id)
        rw [hbl] at hy
        refine ⟨⟨Nat.le_refl _, by omega, .inr ⟨_, _, rfl⟩⟩, hy, hbl, ?_, ⟨rfl, rfl⟩, ⟨by omega, by omega⟩, by simp, fun _ _ _ _ => ⟨by simp, by simp⟩⟩
        intro c hc
        rw [HBS.out] at hc
        rcases List.mem_append.1 hc with h | h
        · obtain ⟨b, _, rfl⟩ := List.mem_map.1 h
          have := UInt8.toNat_lt b; omega
        · exact leB_bytes x W c h
      obtain ⟨c, hcc⟩ : ∃ c, c = x % 256 ^ W := ⟨_, rfl⟩
      have HLD : Hid (leVal ((bs.drop t.size).take W) = c) := by
        show _ = _
        rw [HBS.out, List.drop_left' (bytesOf_length t), List.take_of_length_le (by rw [leB_length]; exact Nat.le_refl _), leVal_leB, hcc]
      have HCC : Hid (c = x % 256 ^ W) := hcc
      clear hcc
      have HTX : Hid (strOf (bs.take t.size) = t) := by
        show _ = _
        rw [HBS.out, List.take_left' (bytesOf_length t), strOf_bytesOf]
      have HBX : Hid (∀ w', Keeps W6 w' (fun _ => False) → w'.cell? ⟨w6.heap.size, 0, none⟩ = some (.slice (some ⟨w4.heap.size, 0, none⟩) (t.size + W) (t.size + W)) ∧ w'.cell? ⟨w6.heap.size, 1, none⟩ = some (.int .i64 0) ∧ w'.cell? ⟨w6.heap.size, 2, none⟩ = some (.pointer none)) := by
        intro w' hk
        rw [hW6] at hk
        exact box3 hk id
      rw [← hW6]
      clear hW6 HY6 HBS
      refine (load_in _ _ _ 0 none none [] bs t.size W W6 hwide (by omega) HL6.out).mono ?_
      rintro e w7 ⟨rfl, D7⟩
      rw [HLD.out]
      have HK7 : Hid (Keeps W6 w7 (fun _ => False)) := D7.none'
      clear D7
      obtain ⟨b70, b71, b72⟩ := HBX.out w7 HK7.out
      go_wp2_with fail
      go_at_call 20
      refine (signed_in _ _ _ 0 none none [] bs t.size W w7 hwide (by omega) (HL6.out.kept HK7.out)).mono ?_
      rintro e w8 ⟨rfl, D8⟩
      rw [HLD.out]
      have HK8 : Hid (Keeps W6 w8 (fun _ => False)) := HK7.out.trans D8.none' fun _ _ h => h
      clear D8 b70 b71 b72
      obtain ⟨b80, b81, b82⟩ := HBX.out w8 HK8.out
      go_wp2_with fail
      go_at_call 34
      refine (vtext_zero _ _ _ 0 none none [] bs t.size w8 (by omega) (HL6.out.kept HK8.out)).mono ?_
      rintro e w9 ⟨rfl, D9⟩
      rw [HTX.out]
      have HK9 : Hid (Keeps W6 w9 (fun _ => False)) := HK8.out.trans D9.none' fun _ _ h => h
      have HKZ : Hid (Keeps w w9 (fun _ => False)) := (HK6.out.trans HKW.out fun _ _ h => h).trans HK9.out fun _ _ h => h
      clear D9 b80 b81 b82 HK6 HK7 HK8 HLD HTX HL6 HKW
      obtain ⟨b0, b1, b2⟩ := HBX.out w9 HK9.out
      clear HBX HK9
      obtain ⟨z, hz⟩ : ∃ z, z = signV c W := ⟨_, rfl⟩
      rw [← hz]
      rcases hWw with rfl | rfl | rfl | rfl
      · have hc' : c = x % 256 := by simpa using HCC.out
        have hz' : z = if c < 128 then c else c - 256 := by rw [hz]; simp [signV]
        clear HCC hz
        have HZ : Hid ((c < 128 ∧ z = c) ∨ (128 ≤ c ∧ z = c - 256)) := by show _ ∨ _; rw [hz']; split <;> omega
        have hcb : 0 ≤ c ∧ c < 256 := by omega
        obtain ⟨hcb0, hcb1⟩ := hcb
        have HC : Hid (c = x % 256) := hc'
        clear hz' hc'
        go_wp2
        go_loop [20, 21] (fun y i => ∃ (k : Nat) (v : Int), 1 ≤ k ∧ k ≤ 8 ∧ i = .int .i64 k ∧ y = .int .u64 v ∧ 0 ≤ v ∧ v < 18446744073709551616 ∧ Hid ((k = 1 → v = x) ∧ (1 < k → v = c))) (fun _ i => 8 - (intOf i).toNat)
        case atStart => exact ⟨1, x, by omega, by omega, rfl, rfl, hx0, hx1, fun _ => rfl, fun h => absurd h (by omega)⟩
        case round =>
          obtain ⟨k, v, hk1, hk2, rfl, rfl, hv0, hv1, HV⟩ := hrel
          by_cases hlt : k < 8
          · have HV2 : Hid (v % 256 = c) := by
              show _ = _
              by_cases e : k = 1
              · rw [HV.out.1 e, HC.out]
              · have := HV.out.2 (by omega); omega
            clear hmost hbl htm h2a h2b hwide hp4 hk HC HZ HV b0 b1 b2
            go_wp2
            go_round
            case rel => exact ⟨k + 1, v % 256, by omega, by omega, by go_num, rfl, by omega, by omega, fun h => absurd h (by omega), fun _ => HV2.out⟩
            case measure => simp [intOf]; omega
          · obtain rfl : k = 8 := by omega
            have hvc : v = c := by
              by_cases e : 8 = 1
              · have := HV.out.1 e; have := HC.out; omega
              · exact HV.out.2 (by omega)
            subst hvc
            clear HV
            go_wp2
            obtain ⟨u, hu⟩ : ∃ u, u = IntKind.u64.wrap z := ⟨_, rfl⟩
            rw [← hu]
            have hub : 0 ≤ u ∧ u < 18446744073709551616 ∧ u % 256 = v := by
              have e : IntKind.u64.wrap z = z % 18446744073709551616 := by simp [IntKind.wrap, IntKind.bits, IntKind.signed]
              rw [hu, e]
              rcases HZ.out with ⟨h1, h2⟩ | ⟨h1, h2⟩ <;> omega
            obtain ⟨hu0, hu1, hum⟩ := hub
            have HU : Hid (u % 256 = v) := hum
            clear hu hum
            go_loop [22, 23] (fun y i => ∃ (k : Nat) (r : Int), 1 ≤ k ∧ k ≤ 8 ∧ i = .int .i64 k ∧ y = .int .u64 r ∧ 0 ≤ r ∧ r < 18446744073709551616 ∧ Hid ((k = 1 → r = u) ∧ (1 < k → r = v))) (fun _ i => 8 - (intOf i).toNat)
            case atStart => exact ⟨1, u, by omega, by omega, rfl, rfl, hu0, hu1, fun _ => rfl, fun h => absurd h (by omega)⟩
            case round =>
              obtain ⟨k, r, hk1, hk2, rfl, rfl, hr0, hr1, HR⟩ := hrel
              by_cases hlt : k < 8
              · have HR2 : Hid (r % 256 = v) := by
                  show _ = _
                  by_cases e : k = 1
                  · rw [HR.out.1 e, HU.out]
                  · have := HR.out.2 (by omega); omega
                clear hmost hbl htm h2a h2b hwide hp4 hk HC HZ HR HU b0 b1 b2
                go_wp2
                go_round
                case rel => exact ⟨k + 1, r % 256, by omega, by omega, by go_num, rfl, by omega, by omega, fun h => absurd h (by omega), fun _ => HR2.out⟩
                case measure => simp [intOf]; omega
              · obtain rfl : k = 8 := by omega
                have hrv : r = v := by
                  by_cases e : 8 = 1
                  · have := HR.out.1 e; have := HU.out; omega
                  · exact HR.out.2 (by omega)
                subst hrv
                clear HR HU hmost hbl h2a h2b hwide hp4 hk HC
                rcases HZ.out with ⟨h1, h2⟩ | ⟨h1, h2⟩
                · have hzn : ¬ z < 0 := by omega
                  have hd1 : decide (z < 0) = false := decide_eq_false hzn
                  have hd2 : decide (128 ≤ r) = false := decide_eq_false (by omega)
                  clear h2 HZ hzn h1 hk1 hk2 hlt
                  go_wp2_with (first | (go_at_call 16; refine (vlen_any _ _ _ 0 none _).mono ?_; rintro e w' ⟨rfl, KZ⟩))
                  go_ret
                  exact ⟨rfl, (HKZ.out.trans KZ fun _ _ h => h).below (fun _ _ h => h.elim) (Nat.le_refl _)⟩
                · have hzn : z < 0 := by omega
                  clear h2 HZ
                  go_wp2_with (first | (go_at_call 16; refine (vlen_any _ _ _ 0 none _).mono ?_; rintro e w' ⟨rfl, KZ⟩))
                  go_ret
                  exact ⟨rfl, (HKZ.out.trans KZ fun _ _ h => h).below (fun _ _ h => h.elim) (Nat.le_refl _)⟩
      · have hc' : c = x % 65536 := by simpa using HCC.out
        have hz' : z = if c < 32768 then c else c - 65536 := by rw [hz]; simp [signV]
        clear HCC hz
        have HZ : Hid ((c < 32768 ∧ z = c) ∨ (32768 ≤ c ∧ z = c - 65536)) := by show _ ∨ _; rw [hz']; split <;> omega
        have hcb : 0 ≤ c ∧ c < 65536 := by omega
        obtain ⟨hcb0, hcb1⟩ := hcb
        have HC : Hid (c = x % 65536) := hc'
        clear hz' hc'
        go_wp2
        go_loop [20, 21] (fun y i => ∃ (k : Nat) (v : Int), 2 ≤ k ∧ k ≤ 8 ∧ i = .int .i64 k ∧ y = .int .u64 v ∧ 0 ≤ v ∧ v < 18446744073709551616 ∧ Hid ((k = 2 → v = x) ∧ (2 < k → v = c))) (fun _ i => 8 - (intOf i).toNat)
        case atStart => exact ⟨2, x, by omega, by omega, rfl, rfl, hx0, hx1, fun _ => rfl, fun h => absurd h (by omega)⟩
        case round =>
          obtain ⟨k, v, hk1, hk2, rfl, rfl, hv0, hv1, HV⟩ := hrel
          by_cases hlt : k < 8
          · have HV2 : Hid (v % 65536 = c) := by
              show _ = _
              by_cases e : k = 2
              · rw [HV.out.1 e, HC.out]
              · have := HV.out.2 (by omega); omega
            clear hmost hbl htm h2a h2b hwide hp4 hk HC HZ HV b0 b1 b2
            go_wp2
            go_round
            case rel => exact ⟨k + 1, v % 65536, by omega, by omega, by go_num, rfl, by omega, by omega, fun h => absurd h (by omega), fun _ => HV2.out⟩
            case measure => simp [intOf]; omega
          · obtain rfl : k = 8 := by omega
            have hvc : v = c := by
              by_cases e : 8 = 2
              · have := HV.out.1 e; have := HC.out; omega
              · exact HV.out.2 (by omega)
            subst hvc
            clear HV
            go_wp2
            obtain ⟨u, hu⟩ : ∃ u, u = IntKind.u64.wrap z := ⟨_, rfl⟩
            rw [← hu]
            have hub : 0 ≤ u ∧ u < 18446744073709551616 ∧ u % 65536 = v := by
              have e : IntKind.u64.wrap z = z % 18446744073709551616 := by simp [IntKind.wrap, IntKind.bits, IntKind.signed]
              rw [hu, e]
              rcases HZ.out with ⟨h1, h2⟩ | ⟨h1, h2⟩ <;> omega
            obtain ⟨hu0, hu1, hum⟩ := hub
            have HU : Hid (u % 65536 = v) := hum
            clear hu hum
            go_loop [22, 23] (fun y i => ∃ (k : Nat) (r : Int), 2 ≤ k ∧ k ≤ 8 ∧ i = .int .i64 k ∧ y = .int .u64 r ∧ 0 ≤ r ∧ r < 18446744073709551616 ∧ Hid ((k = 2 → r = u) ∧ (2 < k → r = v))) (fun _ i => 8 - (intOf i).toNat)
            case atStart => exact ⟨2, u, by omega, by omega, rfl, rfl, hu0, hu1, fun _ => rfl, fun h => absurd h (by omega)⟩
            case round =>
              obtain ⟨k, r, hk1, hk2, rfl, rfl, hr0, hr1, HR⟩ := hrel
              by_cases hlt : k < 8
              · have HR2 : Hid (r % 65536 = v) := by
                  show _ = _
                  by_cases e : k = 2
                  · rw [HR.out.1 e, HU.out]
                  · have := HR.out.2 (by omega); omega
                clear hmost hbl htm h2a h2b hwide hp4 hk HC HZ HR HU b0 b1 b2
                go_wp2
                go_round
                case rel => exact ⟨k + 1, r % 65536, by omega, by omega, by go_num, rfl, by omega, by omega, fun h => absurd h (by omega), fun _ => HR2.out⟩
                case measure => simp [intOf]; omega
              · obtain rfl : k = 8 := by omega
                have hrv : r = v := by
                  by_cases e : 8 = 2
                  · have := HR.out.1 e; have := HU.out; omega
                  · exact HR.out.2 (by omega)
                subst hrv
                clear HR HU hmost hbl h2a h2b hwide hp4 hk HC
                rcases HZ.out with ⟨h1, h2⟩ | ⟨h1, h2⟩
                · have hzn : ¬ z < 0 := by omega
                  have hd1 : decide (z < 0) = false := decide_eq_false hzn
                  have hd2 : decide (32768 ≤ r) = false := decide_eq_false (by omega)
                  clear h2 HZ hzn h1 hk1 hk2 hlt
                  go_wp2_with (first | (go_at_call 16; refine (vlen_any _ _ _ 0 none _).mono ?_; rintro e w' ⟨rfl, KZ⟩))
                  go_ret
                  exact ⟨rfl, (HKZ.out.trans KZ fun _ _ h => h).below (fun _ _ h => h.elim) (Nat.le_refl _)⟩
                · have hzn : z < 0 := by omega
                  clear h2 HZ
                  go_wp2_with (first | (go_at_call 16; refine (vlen_any _ _ _ 0 none _).mono ?_; rintro e w' ⟨rfl, KZ⟩))
                  go_ret
                  exact ⟨rfl, (HKZ.out.trans KZ fun _ _ h => h).below (fun _ _ h => h.elim) (Nat.le_refl _)⟩
      · have hc' : c = x % 4294967296 := by simpa using HCC.out
        have hz' : z = if c < 2147483648 then c else c - 4294967296 := by rw [hz]; simp [signV]
        clear HCC hz
        have HZ : Hid ((c < 2147483648 ∧ z = c) ∨ (2147483648 ≤ c ∧ z = c - 4294967296)) := by show _ ∨ _; rw [hz']; split <;> omega
        have hcb : 0 ≤ c ∧ c < 4294967296 := by omega
        obtain ⟨hcb0, hcb1⟩ := hcb
        have HC : Hid (c = x % 4294967296) := hc'
        clear hz' hc'
        go_wp2
        go_loop [20, 21] (fun y i => ∃ (k : Nat) (v : Int), 4 ≤ k ∧ k ≤ 8 ∧ i = .int .i64 k ∧ y = .int .u64 v ∧ 0 ≤ v ∧ v < 18446744073709551616 ∧ Hid ((k = 4 → v = x) ∧ (4 < k → v = c))) (fun _ i => 8 - (intOf i).toNat)
        case atStart => exact ⟨4, x, by omega, by omega, rfl, rfl, hx0, hx1, fun _ => rfl, fun h => absurd h (by omega)⟩
        case round =>
          obtain ⟨k, v, hk1, hk2, rfl, rfl, hv0, hv1, HV⟩ := hrel
          by_cases hlt : k < 8
          · have HV2 : Hid (v % 4294967296 = c) := by
              show _ = _
              by_cases e : k = 4
              · rw [HV.out.1 e, HC.out]
              · have := HV.out.2 (by omega); omega
            clear hmost hbl htm h2a h2b hwide hp4 hk HC HZ HV b0 b1 b2
            go_wp2
            go_round
            case rel => exact ⟨k + 1, v % 4294967296, by omega, by omega, by go_num, rfl, by omega, by omega, fun h => absurd h (by omega), fun _ => HV2.out⟩
            case measure => simp [intOf]; omega
          · obtain rfl : k = 8 := by omega
            have hvc : v = c := by
              by_cases e : 8 = 4
              · have := HV.out.1 e; have := HC.out; omega
              · exact HV.out.2 (by omega)
            subst hvc
            clear HV
            go_wp2
            obtain ⟨u, hu⟩ : ∃ u, u = IntKind.u64.wrap z := ⟨_, rfl⟩
            rw [← hu]
            have hub : 0 ≤ u ∧ u < 18446744073709551616 ∧ u % 4294967296 = v := by
              have e : IntKind.u64.wrap z = z % 18446744073709551616 := by simp [IntKind.wrap, IntKind.bits, IntKind.signed]
              rw [hu, e]
              rcases HZ.out with ⟨h1, h2⟩ | ⟨h1, h2⟩ <;> omega
            obtain ⟨hu0, hu1, hum⟩ := hub
            have HU : Hid (u % 4294967296 = v) := hum
            clear hu hum
            go_loop [22, 23] (fun y i => ∃ (k : Nat) (r : Int), 4 ≤ k ∧ k ≤ 8 ∧ i = .int .i64 k ∧ y = .int .u64 r ∧ 0 ≤ r ∧ r < 18446744073709551616 ∧ Hid ((k = 4 → r = u) ∧ (4 < k → r = v))) (fun _ i => 8 - (intOf i).toNat)
            case atStart => exact ⟨4, u, by omega, by omega, rfl, rfl, hu0, hu1, fun _ => rfl, fun h => absurd h (by omega)⟩
            case round =>
              obtain ⟨k, r, hk1, hk2, rfl, rfl, hr0, hr1, HR⟩ := hrel
              by_cases hlt : k < 8
              · have HR2 : Hid (r % 4294967296 = v) := by
                  show _ = _
                  by_cases e : k = 4
                  · rw [HR.out.1 e, HU.out]
                  · have := HR.out.2 (by omega); omega
                clear hmost hbl htm h2a h2b hwide hp4 hk HC HZ HR HU b0 b1 b2
                go_wp2
                go_round
                case rel => exact ⟨k + 1, r % 4294967296, by omega, by omega, by go_num, rfl, by omega, by omega, fun h => absurd h (by omega), fun _ => HR2.out⟩
                case measure => simp [intOf]; omega
              · obtain rfl : k = 8 := by omega
                have hrv : r = v := by
                  by_cases e : 8 = 4
                  · have := HR.out.1 e; have := HU.out; omega
                  · exact HR.out.2 (by omega)
                subst hrv
                clear HR HU hmost hbl h2a h2b hwide hp4 hk HC
                rcases HZ.out with ⟨h1, h2⟩ | ⟨h1, h2⟩
                · have hzn : ¬ z < 0 := by omega
                  have hd1 : decide (z < 0) = false := decide_eq_false hzn
                  have hd2 : decide (2147483648 ≤ r) = false := decide_eq_false (by omega)
                  clear h2 HZ hzn h1 hk1 hk2 hlt
                  go_wp2_with (first | (go_at_call 16; refine (vlen_any _ _ _ 0 none _).mono ?_; rintro e w' ⟨rfl, KZ⟩))
                  go_ret
                  exact ⟨rfl, (HKZ.out.trans KZ fun _ _ h => h).below (fun _ _ h => h.elim) (Nat.le_refl _)⟩
                · have hzn : z < 0 := by omega
                  clear h2 HZ
                  go_wp2_with (first | (go_at_call 16; refine (vlen_any _ _ _ 0 none _).mono ?_; rintro e w' ⟨rfl, KZ⟩))
                  go_ret
                  exact ⟨rfl, (HKZ.out.trans KZ fun _ _ h => h).below (fun _ _ h => h.elim) (Nat.le_refl _)⟩
      · have hc' : c = x % 18446744073709551616 := by simpa using HCC.out
        have hz' : z = if c < 9223372036854775808 then c else c - 18446744073709551616 := by rw [hz]; simp [signV]
        clear HCC hz
        have HZ : Hid ((c < 9223372036854775808 ∧ z = c) ∨ (9223372036854775808 ≤ c ∧ z = c - 18446744073709551616)) := by show _ ∨ _; rw [hz']; split <;> omega
        have hcb : 0 ≤ c ∧ c < 18446744073709551616 := by omega
        obtain ⟨hcb0, hcb1⟩ := hcb
        have HC : Hid (c = x % 18446744073709551616) := hc'
        clear hz' hc'
        go_wp2
        go_loop [20, 21] (fun y i => ∃ (k : Nat) (v : Int), 8 ≤ k ∧ k ≤ 8 ∧ i = .int .i64 k ∧ y = .int .u64 v ∧ 0 ≤ v ∧ v < 18446744073709551616 ∧ Hid ((k = 8 → v = x) ∧ (8 < k → v = c))) (fun _ i => 8 - (intOf i).toNat)
        case atStart => exact ⟨8, x, by omega, by omega, rfl, rfl, hx0, hx1, fun _ => rfl, fun h => absurd h (by omega)⟩
        case round =>
          obtain ⟨k, v, hk1, hk2, rfl, rfl, hv0, hv1, HV⟩ := hrel
          by_cases hlt : k < 8
          · exact absurd hlt (by omega)
          · obtain rfl : k = 8 := by omega
            have hvc : v = c := by
              by_cases e : 8 = 8
              · have := HV.out.1 e; have := HC.out; omega
              · exact HV.out.2 (by omega)
            subst hvc
            clear HV
            go_wp2
            obtain ⟨u, hu⟩ : ∃ u, u = IntKind.u64.wrap z := ⟨_, rfl⟩
            rw [← hu]
            have hub : 0 ≤ u ∧ u < 18446744073709551616 ∧ u % 18446744073709551616 = v := by
              have e : IntKind.u64.wrap z = z % 18446744073709551616 := by simp [IntKind.wrap, IntKind.bits, IntKind.signed]
              rw [hu, e]
              rcases HZ.out with ⟨h1, h2⟩ | ⟨h1, h2⟩ <;> omega
            obtain ⟨hu0, hu1, hum⟩ := hub
            have HU : Hid (u % 18446744073709551616 = v) := hum
            clear hu hum
            go_loop [22, 23] (fun y i => ∃ (k : Nat) (r : Int), 8 ≤ k ∧ k ≤ 8 ∧ i = .int .i64 k ∧ y = .int .u64 r ∧ 0 ≤ r ∧ r < 18446744073709551616 ∧ Hid ((k = 8 → r = u) ∧ (8 < k → r = v))) (fun _ i => 8 - (intOf i).toNat)
            case atStart => exact ⟨8, u, by omega, by omega, rfl, rfl, hu0, hu1, fun _ => rfl, fun h => absurd h (by omega)⟩
            case round =>
              obtain ⟨k, r, hk1, hk2, rfl, rfl, hr0, hr1, HR⟩ := hrel
              by_cases hlt : k < 8
              · exact absurd hlt (by omega)
              · obtain rfl : k = 8 := by omega
                have hrv : r = v := by
                  by_cases e : 8 = 8
                  · have := HR.out.1 e; have := HU.out; omega
                  · exact HR.out.2 (by omega)
                subst hrv
                clear HR HU hmost hbl h2a h2b hwide hp4 hk HC
                rcases HZ.out with ⟨h1, h2⟩ | ⟨h1, h2⟩
                · have hzn : ¬ z < 0 := by omega
                  have hd1 : decide (z < 0) = false := decide_eq_false hzn
                  have hd2 : decide (9223372036854775808 ≤ r) = false := decide_eq_false (by omega)
                  clear h2 HZ hzn h1 hk1 hk2 hlt
                  go_wp2_with (first | (go_at_call 16; refine (vlen_any _ _ _ 0 none _).mono ?_; rintro e w' ⟨rfl, KZ⟩))
                  go_ret
                  exact ⟨rfl, (HKZ.out.trans KZ fun _ _ h => h).below (fun _ _ h => h.elim) (Nat.le_refl _)⟩
                · have hzn : z < 0 := by omega
                  clear h2 HZ
                  go_wp2_with (first | (go_at_call 16; refine (vlen_any _ _ _ 0 none _).mono ?_; rintro e w' ⟨rfl, KZ⟩))
                  go_ret
                  exact ⟨rfl, (HKZ.out.trans KZ fun _ _ h => h).below (fun _ _ h => h.elim) (Nat.le_refl _)⟩

theorem back_walk (s : ByteArray) (x which : Int) (w : World) (hs : s.size ≤ 9223372036854775807) (hx0 : 0 ≤ x) (hx1 : x < 18446744073709551616) (hc0 : -9223372036854775808 ≤ which) (hc1 : which ≤ 9223372036854775807) :
    Calls Try.prog 6 #[.string s, .int .u64 x, .int .i64 which] w fun e w' => e = .returned (.bool true) ∧ Below w.heap.size w w' := by
  by_cases hbig : 16777216 - (2 : Int) ^ (pickV which 4).toNat < (s.size : Int)
  · exact back_big s x which w hs hx0 hx1 hc0 hc1 hbig
  · exact back_small s x which w hx0 hx1 hc0 hc1 hbig
end Go.Proofs.Ytomlndoffoeaiaa.Kit
