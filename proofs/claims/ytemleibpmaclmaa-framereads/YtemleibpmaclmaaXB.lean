import Derived.Test.YtemleibpmaclmaaXA
import Derived.Test.YtemleibpmaclmaaFK
namespace Go.Proofs.Ytemleibpmaclmaa.Kit
open Go.RowKit Go.Shelf Go.Deep
set_option linter.unusedVariables false
set_option maxRecDepth 100000 in
set_option maxHeartbeats 4000000 in
theorem docJudge_early {ao : Option Addr} {L ca lm lb : Nat} {b : List UInt8} {w : World} (hb : BytesAt w ao b) (hL : b.length = L) (hLm : L ≤ 140737488355000) (h : markedE b ≠ 0 ∨ L < 16) :
    Calls Try.prog 54 #[.slice ao L ca, .agg #[.int .i64 (lm : Int), .int .i64 (lb : Int)]] w fun e w' => e = .returned (.tuple #[.int .i64 0, .int .i64 (markedE b)]) ∧ Gr w w' := by
  obtain ⟨k, hk⟩ : ∃ k, markedE b = k := ⟨_, rfl⟩
  have HMk : Hid (∀ V, Gr w V → Calls Try.prog 63 #[.slice ao L ca] V fun e w' => e = .returned (.int .i64 k) ∧ Gr V w') := fun V g => by rw [← hk]; exact docMarked_any (hb.gr g) hL (by omega)
  rw [hk] at h ⊢
  have G0 := hidM (gr_alloc w (.cells #[.int .i64 (lm : Int), .int .i64 (lb : Int)] 40))
  clear hk hb hL
  by_cases c : k = 0
  · have hl : (L : Int) < 16 := by rcases h with h | h; exact absurd c h; omega
    subst c
    clear h
    go_enter Try.func54, Try.ntmps54
    go_wp2_with (first | (go_at_call 63; (with_reducible refine (HMk.out _ G0.out).mono ?_); rintro e W1 ⟨rfl, g1⟩; have HG1 := hidM (G0.out.trans g1 (fun _ _ h => h)); clear g1))
    refine bodyPost_ret (v := .tuple #[.int .i64 0, .int .i64 0]) ?_ rfl ⟨rfl, HG1.out⟩
    simp [results, Try.f54, go_sem]
  · clear h
    have hkt : (k != 0) = true := by simpa using c
    go_enter Try.func54, Try.ntmps54
    go_wp2_with (first | (go_at_call 63; (with_reducible refine (HMk.out _ G0.out).mono ?_); rintro e W1 ⟨rfl, g1⟩; have HG1 := hidM (G0.out.trans g1 (fun _ _ h => h)); clear g1))
    refine bodyPost_ret (v := .tuple #[.int .i64 0, .int .i64 k]) ?_ rfl ⟨rfl, HG1.out⟩
    simp [results, Try.f54, go_sem]
theorem sum_take {B o L ca i k : Nat} {b : List UInt8} {w : World} (f : UInt32) (z : Nat) (hz : f.toNat = z) (hb : BytesAt w (some ⟨B, o, none⟩) b) (hL : b.length = L) (hLm : L ≤ 140737488355000) (hi : i + k ≤ L) :
    Calls Try.prog 33 #[.int .u32 (z : Int), .slice (some ⟨B, o + i, none⟩) k ca] w fun e w' => e = .returned (.int .u32 (((sumU f ((b.drop i).take k)).toNat : Nat) : Int)) ∧ w = w' := by
  subst hz
  have hk : ((b.drop i).take k).length = k := by rw [List.length_take, List.length_drop]; omega
  have hbb : BytesAt w (some ⟨B, o + i, none⟩) ((b.drop i).take k) := fun hn => by
    have hk0 : 0 < k := by have := List.length_pos_iff.2 hn; omega
    obtain ⟨B', o', e, hc⟩ := hb.at (ne_nil (show i < b.length by omega))
    cases e
    refine ⟨B, o + i, rfl, fun j hj => ?_⟩
    have := hc (i + j) (by omega)
    rw [Nat.add_assoc, this]
    congr 3
    rw [List.getElem_take, List.getElem_drop, List.getD_eq_getElem?_getD, List.getElem?_eq_getElem (by omega)]
    rfl
  have := sumD_any (ca := ca) f hbb (by omega)
  rw [hk] at this
  exact this
theorem sumAt_any {B o L ca i k : Nat} {b : List UInt8} {w : World} {a : Option Addr} (f : UInt32) (z : Nat) (hz : f.toNat = z) (hb : BytesAt w (some ⟨B, o, none⟩) b) (hL : b.length = L) (hLm : L ≤ 140737488355000) (hi : i + k ≤ L) (ha : a = some ⟨B, o + i, none⟩ ∨ k = 0) :
    Calls Try.prog 33 #[.int .u32 (z : Int), .slice a k ca] w fun e w' => e = .returned (.int .u32 (((sumU f ((b.drop i).take k)).toNat : Nat) : Int)) ∧ w = w' := by
  rcases ha with rfl | rfl
  · exact sum_take f z hz hb hL hLm hi
  · subst hz
    rw [List.take_zero]
    exact sumD_any (bs := []) f (fun h => absurd rfl h) (by simp)
set_option maxRecDepth 100000 in
set_option maxHeartbeats 8000000 in
theorem docJudge_go {B o L ca lm lb : Nat} {b : List UInt8} {w : World} (hb : BytesAt w (some ⟨B, o, none⟩) b) (hL : b.length = L) (hLm : L ≤ 140737488355000) (hca : L ≤ ca) (hcm : ca ≤ 9223372036854775807) (h16 : 16 ≤ L) (hm : markedE b = 0) (hlm : lm ≤ 65536) (hlb : lb ≤ 4194304) :
    Calls Try.prog 54 #[.slice (some ⟨B, o, none⟩) L ca, .agg #[.int .i64 (lm : Int), .int .i64 (lb : Int)]] w fun e w' => e = .returned (.tuple #[.int .i64 ((judgeF lm lb b).1 : Int), .int .i64 (judgeF lm lb b).2]) ∧ Gr w w' := by
  obtain ⟨W0, hW0⟩ : ∃ W0, W0 = w.alloc (.cells #[.int .i64 (lm : Int), .int .i64 (lb : Int)] 40) := ⟨_, rfl⟩
  have G0 := hidM (gr_alloc w (.cells #[.int .i64 (lm : Int), .int .i64 (lb : Int)] 40))
  have hbx := heap_alloc_new w (.cells #[.int .i64 (lm : Int), .int .i64 (lb : Int)] 40)
  rw [← hW0] at G0 hbx
  obtain ⟨p0, p1⟩ := ce2 hbx
  obtain ⟨bx, hbxe⟩ : ∃ bx, bx = w.heap.size := ⟨_, rfl⟩
  rw [← hbxe] at p0 p1
  have HC : Hid (∀ V, Gr W0 V → V.cell? ⟨bx, 0, none⟩ = some (.int .i64 (lm : Int)) ∧ V.cell? ⟨bx, 1, none⟩ = some (.int .i64 (lb : Int))) := fun V g => ⟨g.cell' p0 id, g.cell' p1 id⟩
  have hb0 : BytesAt W0 (some ⟨B, o, none⟩) b := hb.gr G0.out
  have HMk : Hid (∀ V, Gr W0 V → Calls Try.prog 63 #[.slice (some ⟨B, o, none⟩) L ca] V fun e w' => e = .returned (.int .i64 0) ∧ Gr V w') := fun V g => by rw [← hm]; exact docMarked_any (hb0.gr g) hL (by omega)
  obtain ⟨m, hm4⟩ : ∃ m, num4 b 4 = m := ⟨_, rfl⟩
  obtain ⟨n, hn8⟩ : ∃ n, num4 b 8 = n := ⟨_, rfl⟩
  obtain ⟨h12, hh12⟩ : ∃ x, num4 b 12 = x := ⟨_, rfl⟩
  obtain ⟨s12, hs12⟩ : ∃ x, (sumU sum0 (b.take 12)).toNat = x := ⟨_, rfl⟩
  have m32 := num4_lt b 4
  have n32 := num4_lt b 8
  have h32 := num4_lt b 12
  rw [hm4] at m32
  rw [hn8] at n32
  rw [hh12] at h32
  have s32 : s12 < 4294967296 := by rw [← hs12]; exact UInt32.toNat_lt _
  have HN4 : Hid (∀ V, Gr W0 V → Calls Try.prog 55 #[.slice (some ⟨B, o + 4, none⟩) (L - 4) (ca - 4)] V fun e w' => e = .returned (.int .i64 (m : Int)) ∧ Gr V w') := fun V g => by rw [← hm4]; exact docNumber_any (hb0.gr g) hL (by omega)
  have HN8 : Hid (∀ V, Gr W0 V → Calls Try.prog 55 #[.slice (some ⟨B, o + 8, none⟩) (L - 8) (ca - 8)] V fun e w' => e = .returned (.int .i64 (n : Int)) ∧ Gr V w') := fun V g => by rw [← hn8]; exact docNumber_any (hb0.gr g) hL (by omega)
  have HN12 : Hid (∀ V, Gr W0 V → Calls Try.prog 55 #[.slice (some ⟨B, o + 12, none⟩) (L - 12) (ca - 12)] V fun e w' => e = .returned (.int .i64 (h12 : Int)) ∧ Gr V w') := fun V g => by rw [← hh12]; exact docNumber_any (hb0.gr g) hL (by omega)
  have HS12 : Hid (∀ V, Gr W0 V → Calls Try.prog 33 #[.int .u32 2166136261, .slice (some ⟨B, o, none⟩) 12 ca] V fun e w' => e = .returned (.int .u32 (s12 : Int)) ∧ V = w') := fun V g => by
    have := sum_take (ca := ca) (i := 0) (k := 12) sum0 2166136261 rfl (hb0.gr g) hL hLm (by omega)
    rw [List.drop_zero, hs12] at this
    exact this
  obtain ⟨y, hy⟩ : ∃ y, b.getD 3 0 = y := ⟨_, rfl⟩
  have HC3 : Hid (∀ V, Gr W0 V → V.cell? ⟨B, o + 3, none⟩ = some (.int .u8 (y.toNat : Int))) := fun V g => by
    obtain ⟨B', o', e, hc⟩ := (hb0.gr g).at (ne_nil (show 3 < b.length by omega))
    cases e
    rw [← hy]
    exact hc 3 (by omega)
  have HU : Hid (∀ V x, x < 4294967296 → Calls Try.prog 34 #[.int .i64 ((x : Nat) : Int)] V fun e w' => e = .returned (.int .i64 (up8 x : Int)) ∧ V = w') := fun V x hx => up_any x V (by omega)
  obtain ⟨um, hum⟩ : ∃ um, up8 m = um := ⟨_, rfl⟩
  obtain ⟨un, hun⟩ : ∃ un, up8 n = un := ⟨_, rfl⟩
  have u1 := up8_ge m
  have u2 := up8_ge n
  rw [hum] at u1
  rw [hun] at u2
  have HUm : Hid (∀ V, Calls Try.prog 34 #[.int .i64 (m : Int)] V fun e w' => e = .returned (.int .i64 (um : Int)) ∧ V = w') := fun V => by rw [← hum]; exact HU.out V m m32
  have HUn : Hid (∀ V, Calls Try.prog 34 #[.int .i64 (n : Int)] V fun e w' => e = .returned (.int .i64 (un : Int)) ∧ V = w') := fun V => by rw [← hun]; exact HU.out V n n32
  have ebody : bodyN b = 24 + um := by unfold bodyN; rw [hm4, hum]
  have eall : allN b = 24 + um + un := by unfold allN; rw [ebody, hn8, hun]
  obtain ⟨za, hza⟩ : ∃ z, zerosB b 20 24 = z := ⟨_, rfl⟩
  obtain ⟨zc, hzc⟩ : ∃ z, zerosB b (24 + m) (24 + um) = z := ⟨_, rfl⟩
  obtain ⟨zd, hzd⟩ : ∃ z, zerosB b (24 + um + n) (24 + um + un) = z := ⟨_, rfl⟩
  have HZa : Hid (∀ V, Gr W0 V → Calls Try.prog 64 #[.slice (some ⟨B, o, none⟩) L ca, .int .i64 20, .int .i64 24] V fun e w' => e = .returned (.bool za) ∧ w' = V) := fun V g => by rw [← hza]; exact docZeros_any (i := 20) (j := 24) (hb0.gr g) hL (by omega) (by omega) (by omega)
  have HZc : Hid (∀ V, Gr W0 V → Calls Try.prog 64 #[.slice (some ⟨B, o, none⟩) L ca, .int .i64 (24 + (m : Int)), .int .i64 (24 + (um : Int))] V fun e w' => e = .returned (.bool zc) ∧ w' = V) := fun V g => by
    rw [← hzc]
    have := docZeros_any (ca := ca) (i := 24 + m) (j := 24 + um) (hb0.gr g) hL (by omega) (by omega) (by omega)
    simpa using this
  have HZd : Hid (∀ V, Gr W0 V → Calls Try.prog 64 #[.slice (some ⟨B, o, none⟩) L ca, .int .i64 (24 + (um : Int) + (n : Int)), .int .i64 (24 + (um : Int) + (un : Int))] V fun e w' => e = .returned (.bool zd) ∧ w' = V) := fun V g => by
    rw [← hzd]
    have := docZeros_any (ca := ca) (i := 24 + um + n) (j := 24 + um + un) (hb0.gr g) hL (by omega) (by omega) (by omega)
    simpa using this
  have HJ : Hid (judgeF lm lb b = if h12 ≠ s12 then (0, 72) else if lm < m ∨ lb < n then (0, 71) else if y = 48 ∧ (m ≠ 0 ∨ n ≠ 0) then (0, 8) else if ¬ (za = true ∧ zc = true ∧ zd = true) then (0, 8) else if L < 24 + um + un then (0, 0) else if num4 b 16 ≠ (sumU (sumU sum0 (metaB b)) (dataB b)).toNat then (0, 72) else (24 + um + un, 0)) := by
    show _ = _
    unfold judgeF
    rw [if_neg (by rw [hm, hL]; omega), hh12, hs12, hm4, hn8, hy, hza, ebody, eall, hzc, hzd, hL]
  obtain ⟨h16n, hh16⟩ : ∃ x, num4 b 16 = x := ⟨_, rfl⟩
  obtain ⟨s1, hs1⟩ : ∃ x, (sumU sum0 (metaB b)).toNat = x := ⟨_, rfl⟩
  obtain ⟨s2, hs2⟩ : ∃ x, (sumU (sumU sum0 (metaB b)) (dataB b)).toNat = x := ⟨_, rfl⟩
  have H21 : Hid (24 + um + un ≤ L → (∀ V, Gr W0 V → Calls Try.prog 55 #[.slice (some ⟨B, o + 16, none⟩) (L - 16) (ca - 16)] V fun e w' => e = .returned (.int .i64 (h16n : Int)) ∧ Gr V w') ∧ (∀ V c a k, Gr W0 V → k = m → (a = some ⟨B, o + 24, none⟩ ∨ m = 0) → Calls Try.prog 33 #[.int .u32 2166136261, .slice a k c] V fun e w' => e = .returned (.int .u32 (s1 : Int)) ∧ V = w') ∧ (∀ V c a k, Gr W0 V → k = n → (a = some ⟨B, o + (24 + um), none⟩ ∨ n = 0) → Calls Try.prog 33 #[.int .u32 (s1 : Int), .slice a k c] V fun e w' => e = .returned (.int .u32 (s2 : Int)) ∧ V = w')) := fun hall => by
    refine ⟨fun V g => by rw [← hh16]; exact docNumber_any (hb0.gr g) hL (by omega), fun V c a k g hk ha => ?_, fun V c a k g hk ha => ?_⟩
    · subst hk
      have := sumAt_any (ca := c) (i := 24) (k := k) sum0 2166136261 rfl (hb0.gr g) hL hLm (by omega) ha
      have e : (b.drop 24).take k = metaB b := by unfold metaB; rw [hm4]
      rw [e, hs1] at this
      exact this
    · subst hk
      have := sumAt_any (ca := c) (i := 24 + um) (k := k) (sumU sum0 (metaB b)) s1 hs1 (hb0.gr g) hL hLm (by omega) ha
      have e : (b.drop (24 + um)).take k = dataB b := by unfold dataB; rw [hn8, ebody]
      rw [e, hs2] at this
      exact this
  rw [hh16, hs2] at HJ
  have k32 : h16n < 4294967296 := by rw [← hh16]; exact num4_lt b 16
  have t32 : s2 < 4294967296 := by rw [← hs2]; exact UInt32.toNat_lt _
  have v32 : s1 < 4294967296 := by rw [← hs1]; exact UInt32.toNat_lt _
  have hyb := y.toNat_lt
  have h16I : ¬ ((L : Int) < 16) := by omega
  have h4I : (4 : Int) ≤ (L : Int) := by omega
  have h8I : (8 : Int) ≤ (L : Int) := by omega
  have h12I : (12 : Int) ≤ (L : Int) := by omega
  have h3I : (3 : Int) < (L : Int) := by omega
  have h12c : (12 : Int) ≤ (ca : Int) := by omega
  have hc12 : ¬ ca = 12 := by omega
  have hw12 : IntKind.u32.wrap (h12 : Int) = (h12 : Int) := by rw [IntKind.wrap_u32]; omega
  have hw16 : IntKind.u32.wrap (h16n : Int) = (h16n : Int) := by rw [IntKind.wrap_u32]; omega
  clear m32 n32 h32 s32 k32 t32 v32
  clear hbx p0 p1 hb0 hb hm hm4 hn8 hh12 hs12 hy HU hum hun ebody eall hza hzc hzd hh16 hs1 hs2 hL
  go_enter Try.func54, Try.ntmps54
  go_wp2_with (go_at_call 63; refine Hid.out ?_)
  unfold Hid
  rw [← hbxe, ← hW0]
  clear hbxe hW0
  refine Calls.mono (HMk.out _ (Keeps.refl _ _)) ?_
  rintro e W1 ⟨rfl, g1⟩
  have HG1 := hidM g1
  clear g1 HMk
  go_wp2_with (first | (go_at_call 55; (with_reducible refine (HN4.out _ HG1.out).mono ?_); rintro e W2 ⟨rfl, g2⟩; have HG2 := hidM (HG1.out.trans g2 (fun _ _ h => h)); clear g2 HN4 HG1) | (go_at_call 55; (with_reducible refine (HN8.out _ HG2.out).mono ?_); rintro e W3 ⟨rfl, g3⟩; have HG3 := hidM (HG2.out.trans g3 (fun _ _ h => h)); clear g3 HN8 HG2))
  have HIN : Hid (Hid (Gr W0 W3.drew)) := HG3.out.trans ((Keeps.refl W3 _).drew) (fun _ _ h => h)
  go_region_held3 (fun w' => Hid (Gr W0 w')) (first | with_reducible exact HIN.out | with_reducible assumption | with_reducible exact HK4.out) (first | (go_at_call 55; (with_reducible refine (HN12.out _ HIN.out.out).mono ?_); rintro e W4 ⟨rfl, g4⟩; have HK4 : Hid (Hid (Gr W0 W4)) := HIN.out.out.trans g4 (fun _ _ h => h); clear g4) | (go_at_call 33; (with_reducible refine (HS12.out _ HK4.out.out).mono ?_); rintro e w' ⟨rfl, rfl⟩))
  clear HIN HN12 HS12 HG3
  have HG4 := hidM HK4.out.out
  clear HK4
  obtain ⟨a0, a1⟩ := HC.out W4 HG4.out
  have a3 := HC3.out W4 HG4.out
  have HGw := hidM (G0.out.trans HG4.out (fun _ _ h => h))
  by_cases c1 : h12 = s12
  rotate_left
  · have hq : ((h12 : Int) != (s12 : Int)) = true := by simp; omega
    have HE : Hid (judgeF lm lb b = (0, 72)) := by show _ = _; rw [HJ.out, if_pos c1]
    go_wp2_with fail
    refine bodyPost_ret (v := .tuple #[.int .i64 0, .int .i64 72]) ?_ rfl ⟨by rw [HE.out]; rfl, HGw.out⟩
    simp [results, Try.f54, go_sem]
  subst c1
  by_cases c2 : lm < m
  · have c2I : (lm : Int) < (m : Int) := by omega
    have HE : Hid (judgeF lm lb b = (0, 71)) := by show _ = _; rw [HJ.out, if_neg (by simp), if_pos (.inl c2)]
    go_wp2_with fail
    refine bodyPost_ret (v := .tuple #[.int .i64 0, .int .i64 71]) ?_ rfl ⟨by rw [HE.out]; rfl, HGw.out⟩
    simp [results, Try.f54, go_sem]
  have c2I : ¬ ((lm : Int) < (m : Int)) := by omega
  by_cases c2' : lb < n
  · have c2J : (lb : Int) < (n : Int) := by omega
    have HE : Hid (judgeF lm lb b = (0, 71)) := by show _ = _; rw [HJ.out, if_neg (by simp), if_pos (.inr c2')]
    go_wp2_with fail
    refine bodyPost_ret (v := .tuple #[.int .i64 0, .int .i64 71]) ?_ rfl ⟨by rw [HE.out]; rfl, HGw.out⟩
    simp [results, Try.f54, go_sem]
  have c2J : ¬ ((lb : Int) < (n : Int)) := by omega
  have hm6 : m ≤ 65536 := by omega
  have hn6 : n ≤ 4194304 := by omega
  have hum6 : um ≤ 65543 := by omega
  have hun6 : un ≤ 4194311 := by omega
  have mum : (m : Int) ≤ (um : Int) := by omega
  have nun : (n : Int) ≤ (un : Int) := by omega
  have HJ2 : Hid (judgeF lm lb b = if y = 48 ∧ (m ≠ 0 ∨ n ≠ 0) then (0, 8) else if ¬ (za = true ∧ zc = true ∧ zd = true) then (0, 8) else if L < 24 + um + un then (0, 0) else if h16n ≠ s2 then (0, 72) else (24 + um + un, 0)) := by show _ = _; rw [HJ.out, if_neg (by simp), if_neg (by omega)]
  clear HJ
  by_cases cy : y = 48
  · have cyI : ((y.toNat : Int) == 48) = true := by rw [cy]; rfl
    by_cases c3 : m = 0
    rotate_left
    · have c3I : ((m : Int) != 0) = true := by simp; omega
      have HE : Hid (judgeF lm lb b = (0, 8)) := by show _ = _; rw [HJ2.out, if_pos ⟨cy, .inl c3⟩]
      clear HJ2
      go_wp2_with fail
      refine bodyPost_ret (v := .tuple #[.int .i64 0, .int .i64 8]) ?_ rfl ⟨by rw [HE.out]; rfl, HGw.out⟩
      simp [results, Try.f54, go_sem]
    have c3I : ((m : Int) != 0) = false := by simp; omega
    by_cases c4 : n = 0
    rotate_left
    · have c4I : ((n : Int) != 0) = true := by simp; omega
      have HE : Hid (judgeF lm lb b = (0, 8)) := by show _ = _; rw [HJ2.out, if_pos ⟨cy, .inr c4⟩]
      clear HJ2
      go_wp2_with fail
      refine bodyPost_ret (v := .tuple #[.int .i64 0, .int .i64 8]) ?_ rfl ⟨by rw [HE.out]; rfl, HGw.out⟩
      simp [results, Try.f54, go_sem]
    have c4I : ((n : Int) != 0) = false := by simp; omega
    have HJ3 : Hid (judgeF lm lb b = if ¬ (za = true ∧ zc = true ∧ zd = true) then (0, 8) else if L < 24 + um + un then (0, 0) else if h16n ≠ s2 then (0, 72) else (24 + um + un, 0)) := by show _ = _; rw [HJ2.out, if_neg (by omega)]
    clear HJ2 c3 c4 cy
    go_wp2_with (first | (go_at_call 34; refine Hid.out ?_))
    unfold Hid
    clear cyI c2I c2J a0 a1 a3
    refine Calls.mono (HUm.out _) ?_
    rintro e w' ⟨rfl, rfl⟩
    have calls : True := trivial
    cases za
    · have HE : Hid (judgeF lm lb b = (0, 8)) := by show _ = _; rw [HJ3.out, if_pos (by simp)]
      go_wp2_with (first | (go_at_call 34; (with_reducible refine (HUn.out _).mono ?_); rintro e w' ⟨rfl, rfl⟩) | (go_at_call 64; (with_reducible refine (HZa.out _ HG4.out).mono ?_); rintro e w' ⟨rfl, rfl⟩) | (go_at_call 64; (with_reducible refine (HZc.out _ HG4.out).mono ?_); rintro e w' ⟨rfl, rfl⟩) | (go_at_call 64; (with_reducible refine (HZd.out _ HG4.out).mono ?_); rintro e w' ⟨rfl, rfl⟩))
      refine bodyPost_ret (v := .tuple #[.int .i64 0, .int .i64 8]) ?_ rfl ⟨by rw [HE.out]; rfl, HGw.out⟩
      simp [results, Try.f54, go_sem]
    cases zc
    · have HE : Hid (judgeF lm lb b = (0, 8)) := by show _ = _; rw [HJ3.out, if_pos (by simp)]
      go_wp2_with (first | (go_at_call 34; (with_reducible refine (HUn.out _).mono ?_); rintro e w' ⟨rfl, rfl⟩) | (go_at_call 64; (with_reducible refine (HZa.out _ HG4.out).mono ?_); rintro e w' ⟨rfl, rfl⟩) | (go_at_call 64; (with_reducible refine (HZc.out _ HG4.out).mono ?_); rintro e w' ⟨rfl, rfl⟩) | (go_at_call 64; (with_reducible refine (HZd.out _ HG4.out).mono ?_); rintro e w' ⟨rfl, rfl⟩))
      refine bodyPost_ret (v := .tuple #[.int .i64 0, .int .i64 8]) ?_ rfl ⟨by rw [HE.out]; rfl, HGw.out⟩
      simp [results, Try.f54, go_sem]
    cases zd
    · have HE : Hid (judgeF lm lb b = (0, 8)) := by show _ = _; rw [HJ3.out, if_pos (by simp)]
      go_wp2_with (first | (go_at_call 34; (with_reducible refine (HUn.out _).mono ?_); rintro e w' ⟨rfl, rfl⟩) | (go_at_call 64; (with_reducible refine (HZa.out _ HG4.out).mono ?_); rintro e w' ⟨rfl, rfl⟩) | (go_at_call 64; (with_reducible refine (HZc.out _ HG4.out).mono ?_); rintro e w' ⟨rfl, rfl⟩) | (go_at_call 64; (with_reducible refine (HZd.out _ HG4.out).mono ?_); rintro e w' ⟨rfl, rfl⟩))
      refine bodyPost_ret (v := .tuple #[.int .i64 0, .int .i64 8]) ?_ rfl ⟨by rw [HE.out]; rfl, HGw.out⟩
      simp [results, Try.f54, go_sem]
    by_cases c5 : L < 24 + um + un
    · have c5I : (L : Int) < 24 + (um : Int) + (un : Int) := by omega
      have HE : Hid (judgeF lm lb b = (0, 0)) := by show _ = _; rw [HJ3.out, if_neg (by simp), if_pos c5]
      go_wp2_with (first | (go_at_call 34; (with_reducible refine (HUn.out _).mono ?_); rintro e w' ⟨rfl, rfl⟩) | (go_at_call 64; (with_reducible refine (HZa.out _ HG4.out).mono ?_); rintro e w' ⟨rfl, rfl⟩) | (go_at_call 64; (with_reducible refine (HZc.out _ HG4.out).mono ?_); rintro e w' ⟨rfl, rfl⟩) | (go_at_call 64; (with_reducible refine (HZd.out _ HG4.out).mono ?_); rintro e w' ⟨rfl, rfl⟩))
      refine bodyPost_ret (v := .tuple #[.int .i64 0, .int .i64 0]) ?_ rfl ⟨by rw [HE.out]; rfl, HGw.out⟩
      simp [results, Try.f54, go_sem]
    have c5I : ¬ ((L : Int) < 24 + (um : Int) + (un : Int)) := by omega
    obtain ⟨q1, q2, q3⟩ := H21.out (by omega)
    have Q1 := hidM q1
    have Q2 := hidM q2
    have Q3 := hidM q3
    have hc16 : ¬ ca = 16 := by omega
    have l16 : (16 : Int) ≤ (L : Int) := by omega
    have hc24m : 24 + (m : Int) ≤ (ca : Int) := by omega
    have hcb : 24 + (um : Int) + (n : Int) ≤ (ca : Int) := by omega
    clear q1 q2 q3 H21
    go_wp2_with (first | (go_at_call 34; (with_reducible refine (HUn.out _).mono ?_); rintro e w' ⟨rfl, rfl⟩) | (go_at_call 64; (with_reducible refine (HZa.out _ HG4.out).mono ?_); rintro e w' ⟨rfl, rfl⟩) | (go_at_call 64; (with_reducible refine (HZc.out _ HG4.out).mono ?_); rintro e w' ⟨rfl, rfl⟩) | (go_at_call 64; (with_reducible refine (HZd.out _ HG4.out).mono ?_); rintro e w' ⟨rfl, rfl⟩))
    have HIN : Hid (Hid (Gr W0 (World.drew _))) := HG4.out.trans ((Keeps.refl _ _).drew) (fun _ _ h => h)
    have wA : IntKind.i64.wrap (24 + (m : Int)) = 24 + (m : Int) := by rw [IntKind.wrap_i64]; omega
    have wB : IntKind.i64.wrap (24 + (um : Int) + (n : Int)) = 24 + (um : Int) + (n : Int) := by rw [IntKind.wrap_i64]; omega
    have l24 : (24 : Int) ≤ 24 + (m : Int) := by omega
    have lB : 24 + (um : Int) ≤ 24 + (um : Int) + (n : Int) := by omega
    have lB0 : (0 : Int) ≤ 24 + (um : Int) := by omega
    have hz24 : ca = 24 → m = 0 := fun q => by omega
    have hzb : ca = 24 + um → n = 0 := fun q => by omega
    have HZ24 := hidM hz24
    have HZb := hidM hzb
    clear hz24 hzb HZa HZc HZd HUm HUn
    by_cases c24 : ca = 24
    · have HM0 : Hid (m = 0) := HZ24.out c24
      have HN0 : Hid (n = 0) := by show _ = _; omega
      have hA1 : (ca = 24) = True := by simp [c24]
      have hA2 : (ca = (24 + (um : Int)).toNat) = True := by simp; omega
      clear HZ24 HZb c24
      go_region_held3 (fun w' => Hid (Gr W0 w')) (first | with_reducible exact HIN.out | with_reducible assumption | with_reducible exact HK5.out) (first | (go_at_call 55; (with_reducible refine (Q1.out _ HIN.out.out).mono ?_); rintro e W5 ⟨rfl, g5⟩; have HK5 : Hid (Hid (Gr W0 W5)) := HIN.out.out.trans g5 (fun _ _ h => h); clear g5) | (go_at_call 33; (with_reducible refine (Q2.out _ _ _ _ HK5.out.out (by omega) (.inr HM0.out)).mono ?_); rintro e w' ⟨rfl, rfl⟩) | (go_at_call 33; (with_reducible refine (Q3.out _ _ _ _ HK5.out.out (by omega) (.inr HN0.out)).mono ?_); rintro e w' ⟨rfl, rfl⟩))
      have HG5 := hidM (G0.out.trans HK5.out.out (fun _ _ h => h))
      clear HIN HK5 Q1 Q2 Q3
      by_cases c6 : h16n = s2
      rotate_left
      · have hq : ((h16n : Int) != (s2 : Int)) = true := by simp; omega
        have HE : Hid (judgeF lm lb b = (0, 72)) := by show _ = _; rw [HJ3.out, if_neg (by simp), if_neg c5, if_pos c6]
        go_wp2_with fail
        refine bodyPost_ret (v := .tuple #[.int .i64 0, .int .i64 72]) ?_ rfl ⟨by rw [HE.out]; rfl, HG5.out⟩
        simp [results, Try.f54, go_sem]
      have HE : Hid (judgeF lm lb b = (24 + um + un, 0)) := by show _ = _; rw [HJ3.out, if_neg (by simp), if_neg c5, if_neg (fun z => z c6)]
      subst c6
      go_wp2_with fail
      refine bodyPost_ret (v := .tuple #[.int .i64 (24 + (um : Int) + (un : Int)), .int .i64 0]) ?_ rfl ⟨by rw [HE.out]; simp, HG5.out⟩
      simp [results, Try.f54, go_sem]
    by_cases cb : ca = 24 + um
    · have HN0 : Hid (n = 0) := HZb.out cb
      have hB : (ca = (24 + (um : Int)).toNat) = True := by simp; omega
      clear HZ24 HZb cb
      go_region_held3 (fun w' => Hid (Gr W0 w')) (first | with_reducible exact HIN.out | with_reducible assumption | with_reducible exact HK5.out) (first | (go_at_call 55; (with_reducible refine (Q1.out _ HIN.out.out).mono ?_); rintro e W5 ⟨rfl, g5⟩; have HK5 : Hid (Hid (Gr W0 W5)) := HIN.out.out.trans g5 (fun _ _ h => h); clear g5) | (go_at_call 33; (with_reducible refine (Q2.out _ _ _ _ HK5.out.out (by omega) (.inl rfl)).mono ?_); rintro e w' ⟨rfl, rfl⟩) | (go_at_call 33; (with_reducible refine (Q3.out _ _ _ _ HK5.out.out (by omega) (.inr HN0.out)).mono ?_); rintro e w' ⟨rfl, rfl⟩))
      have HG5 := hidM (G0.out.trans HK5.out.out (fun _ _ h => h))
      clear HIN HK5 Q1 Q2 Q3
      by_cases c6 : h16n = s2
      rotate_left
      · have hq : ((h16n : Int) != (s2 : Int)) = true := by simp; omega
        have HE : Hid (judgeF lm lb b = (0, 72)) := by show _ = _; rw [HJ3.out, if_neg (by simp), if_neg c5, if_pos c6]
        go_wp2_with fail
        refine bodyPost_ret (v := .tuple #[.int .i64 0, .int .i64 72]) ?_ rfl ⟨by rw [HE.out]; rfl, HG5.out⟩
        simp [results, Try.f54, go_sem]
      have HE : Hid (judgeF lm lb b = (24 + um + un, 0)) := by show _ = _; rw [HJ3.out, if_neg (by simp), if_neg c5, if_neg (fun z => z c6)]
      subst c6
      go_wp2_with fail
      refine bodyPost_ret (v := .tuple #[.int .i64 (24 + (um : Int) + (un : Int)), .int .i64 0]) ?_ rfl ⟨by rw [HE.out]; simp, HG5.out⟩
      simp [results, Try.f54, go_sem]
    have cb2 : ¬ ca = (24 + (um : Int)).toNat := by omega
    clear HZ24 HZb
    go_region_held3 (fun w' => Hid (Gr W0 w')) (first | with_reducible exact HIN.out | with_reducible assumption | with_reducible exact HK5.out) (first | (go_at_call 55; (with_reducible refine (Q1.out _ HIN.out.out).mono ?_); rintro e W5 ⟨rfl, g5⟩; have HK5 : Hid (Hid (Gr W0 W5)) := HIN.out.out.trans g5 (fun _ _ h => h); clear g5) | (go_at_call 33; (with_reducible refine (Q2.out _ _ _ _ HK5.out.out (by omega) (.inl rfl)).mono ?_); rintro e w' ⟨rfl, rfl⟩) | (go_at_call 33; (with_reducible refine (Q3.out _ _ _ _ HK5.out.out (by omega) (.inl (by congr 2; omega))).mono ?_); rintro e w' ⟨rfl, rfl⟩))
    have HG5 := hidM (G0.out.trans HK5.out.out (fun _ _ h => h))
    clear HIN HK5 Q1 Q2 Q3
    by_cases c6 : h16n = s2
    rotate_left
    · have hq : ((h16n : Int) != (s2 : Int)) = true := by simp; omega
      have HE : Hid (judgeF lm lb b = (0, 72)) := by show _ = _; rw [HJ3.out, if_neg (by simp), if_neg c5, if_pos c6]
      go_wp2_with fail
      refine bodyPost_ret (v := .tuple #[.int .i64 0, .int .i64 72]) ?_ rfl ⟨by rw [HE.out]; rfl, HG5.out⟩
      simp [results, Try.f54, go_sem]
    have HE : Hid (judgeF lm lb b = (24 + um + un, 0)) := by show _ = _; rw [HJ3.out, if_neg (by simp), if_neg c5, if_neg (fun z => z c6)]
    subst c6
    go_wp2_with fail
    refine bodyPost_ret (v := .tuple #[.int .i64 (24 + (um : Int) + (un : Int)), .int .i64 0]) ?_ rfl ⟨by rw [HE.out]; simp, HG5.out⟩
    simp [results, Try.f54, go_sem]
  · have cyI : ((y.toNat : Int) == 48) = false := by
      have : ¬ (y.toNat : Int) = 48 := fun q => cy (UInt8.toNat_inj.1 (by show y.toNat = 48; omega))
      simpa using this
    have HJ3 : Hid (judgeF lm lb b = if ¬ (za = true ∧ zc = true ∧ zd = true) then (0, 8) else if L < 24 + um + un then (0, 0) else if h16n ≠ s2 then (0, 72) else (24 + um + un, 0)) := by show _ = _; rw [HJ2.out, if_neg (fun z => cy z.1)]
    clear HJ2
    go_wp2_with (first | (go_at_call 34; refine Hid.out ?_))
    unfold Hid
    clear cyI c2I c2J a0 a1 a3
    refine Calls.mono (HUm.out _) ?_
    rintro e w' ⟨rfl, rfl⟩
    have calls : True := trivial
    cases za
    · have HE : Hid (judgeF lm lb b = (0, 8)) := by show _ = _; rw [HJ3.out, if_pos (by simp)]
      go_wp2_with (first | (go_at_call 34; (with_reducible refine (HUn.out _).mono ?_); rintro e w' ⟨rfl, rfl⟩) | (go_at_call 64; (with_reducible refine (HZa.out _ HG4.out).mono ?_); rintro e w' ⟨rfl, rfl⟩) | (go_at_call 64; (with_reducible refine (HZc.out _ HG4.out).mono ?_); rintro e w' ⟨rfl, rfl⟩) | (go_at_call 64; (with_reducible refine (HZd.out _ HG4.out).mono ?_); rintro e w' ⟨rfl, rfl⟩))
      refine bodyPost_ret (v := .tuple #[.int .i64 0, .int .i64 8]) ?_ rfl ⟨by rw [HE.out]; rfl, HGw.out⟩
      simp [results, Try.f54, go_sem]
    cases zc
    · have HE : Hid (judgeF lm lb b = (0, 8)) := by show _ = _; rw [HJ3.out, if_pos (by simp)]
      go_wp2_with (first | (go_at_call 34; (with_reducible refine (HUn.out _).mono ?_); rintro e w' ⟨rfl, rfl⟩) | (go_at_call 64; (with_reducible refine (HZa.out _ HG4.out).mono ?_); rintro e w' ⟨rfl, rfl⟩) | (go_at_call 64; (with_reducible refine (HZc.out _ HG4.out).mono ?_); rintro e w' ⟨rfl, rfl⟩) | (go_at_call 64; (with_reducible refine (HZd.out _ HG4.out).mono ?_); rintro e w' ⟨rfl, rfl⟩))
      refine bodyPost_ret (v := .tuple #[.int .i64 0, .int .i64 8]) ?_ rfl ⟨by rw [HE.out]; rfl, HGw.out⟩
      simp [results, Try.f54, go_sem]
    cases zd
    · have HE : Hid (judgeF lm lb b = (0, 8)) := by show _ = _; rw [HJ3.out, if_pos (by simp)]
      go_wp2_with (first | (go_at_call 34; (with_reducible refine (HUn.out _).mono ?_); rintro e w' ⟨rfl, rfl⟩) | (go_at_call 64; (with_reducible refine (HZa.out _ HG4.out).mono ?_); rintro e w' ⟨rfl, rfl⟩) | (go_at_call 64; (with_reducible refine (HZc.out _ HG4.out).mono ?_); rintro e w' ⟨rfl, rfl⟩) | (go_at_call 64; (with_reducible refine (HZd.out _ HG4.out).mono ?_); rintro e w' ⟨rfl, rfl⟩))
      refine bodyPost_ret (v := .tuple #[.int .i64 0, .int .i64 8]) ?_ rfl ⟨by rw [HE.out]; rfl, HGw.out⟩
      simp [results, Try.f54, go_sem]
    by_cases c5 : L < 24 + um + un
    · have c5I : (L : Int) < 24 + (um : Int) + (un : Int) := by omega
      have HE : Hid (judgeF lm lb b = (0, 0)) := by show _ = _; rw [HJ3.out, if_neg (by simp), if_pos c5]
      go_wp2_with (first | (go_at_call 34; (with_reducible refine (HUn.out _).mono ?_); rintro e w' ⟨rfl, rfl⟩) | (go_at_call 64; (with_reducible refine (HZa.out _ HG4.out).mono ?_); rintro e w' ⟨rfl, rfl⟩) | (go_at_call 64; (with_reducible refine (HZc.out _ HG4.out).mono ?_); rintro e w' ⟨rfl, rfl⟩) | (go_at_call 64; (with_reducible refine (HZd.out _ HG4.out).mono ?_); rintro e w' ⟨rfl, rfl⟩))
      refine bodyPost_ret (v := .tuple #[.int .i64 0, .int .i64 0]) ?_ rfl ⟨by rw [HE.out]; rfl, HGw.out⟩
      simp [results, Try.f54, go_sem]
    have c5I : ¬ ((L : Int) < 24 + (um : Int) + (un : Int)) := by omega
    obtain ⟨q1, q2, q3⟩ := H21.out (by omega)
    have Q1 := hidM q1
    have Q2 := hidM q2
    have Q3 := hidM q3
    have hc16 : ¬ ca = 16 := by omega
    have l16 : (16 : Int) ≤ (L : Int) := by omega
    have hc24m : 24 + (m : Int) ≤ (ca : Int) := by omega
    have hcb : 24 + (um : Int) + (n : Int) ≤ (ca : Int) := by omega
    clear q1 q2 q3 H21
    go_wp2_with (first | (go_at_call 34; (with_reducible refine (HUn.out _).mono ?_); rintro e w' ⟨rfl, rfl⟩) | (go_at_call 64; (with_reducible refine (HZa.out _ HG4.out).mono ?_); rintro e w' ⟨rfl, rfl⟩) | (go_at_call 64; (with_reducible refine (HZc.out _ HG4.out).mono ?_); rintro e w' ⟨rfl, rfl⟩) | (go_at_call 64; (with_reducible refine (HZd.out _ HG4.out).mono ?_); rintro e w' ⟨rfl, rfl⟩))
    have HIN : Hid (Hid (Gr W0 (World.drew _))) := HG4.out.trans ((Keeps.refl _ _).drew) (fun _ _ h => h)
    have wA : IntKind.i64.wrap (24 + (m : Int)) = 24 + (m : Int) := by rw [IntKind.wrap_i64]; omega
    have wB : IntKind.i64.wrap (24 + (um : Int) + (n : Int)) = 24 + (um : Int) + (n : Int) := by rw [IntKind.wrap_i64]; omega
    have l24 : (24 : Int) ≤ 24 + (m : Int) := by omega
    have lB : 24 + (um : Int) ≤ 24 + (um : Int) + (n : Int) := by omega
    have lB0 : (0 : Int) ≤ 24 + (um : Int) := by omega
    have hz24 : ca = 24 → m = 0 := fun q => by omega
    have hzb : ca = 24 + um → n = 0 := fun q => by omega
    have HZ24 := hidM hz24
    have HZb := hidM hzb
    clear hz24 hzb HZa HZc HZd HUm HUn
    by_cases c24 : ca = 24
    · have HM0 : Hid (m = 0) := HZ24.out c24
      have HN0 : Hid (n = 0) := by show _ = _; omega
      have hA1 : (ca = 24) = True := by simp [c24]
      have hA2 : (ca = (24 + (um : Int)).toNat) = True := by simp; omega
      clear HZ24 HZb c24
      go_region_held3 (fun w' => Hid (Gr W0 w')) (first | with_reducible exact HIN.out | with_reducible assumption | with_reducible exact HK5.out) (first | (go_at_call 55; (with_reducible refine (Q1.out _ HIN.out.out).mono ?_); rintro e W5 ⟨rfl, g5⟩; have HK5 : Hid (Hid (Gr W0 W5)) := HIN.out.out.trans g5 (fun _ _ h => h); clear g5) | (go_at_call 33; (with_reducible refine (Q2.out _ _ _ _ HK5.out.out (by omega) (.inr HM0.out)).mono ?_); rintro e w' ⟨rfl, rfl⟩) | (go_at_call 33; (with_reducible refine (Q3.out _ _ _ _ HK5.out.out (by omega) (.inr HN0.out)).mono ?_); rintro e w' ⟨rfl, rfl⟩))
      have HG5 := hidM (G0.out.trans HK5.out.out (fun _ _ h => h))
      clear HIN HK5 Q1 Q2 Q3
      by_cases c6 : h16n = s2
      rotate_left
      · have hq : ((h16n : Int) != (s2 : Int)) = true := by simp; omega
        have HE : Hid (judgeF lm lb b = (0, 72)) := by show _ = _; rw [HJ3.out, if_neg (by simp), if_neg c5, if_pos c6]
        go_wp2_with fail
        refine bodyPost_ret (v := .tuple #[.int .i64 0, .int .i64 72]) ?_ rfl ⟨by rw [HE.out]; rfl, HG5.out⟩
        simp [results, Try.f54, go_sem]
      have HE : Hid (judgeF lm lb b = (24 + um + un, 0)) := by show _ = _; rw [HJ3.out, if_neg (by simp), if_neg c5, if_neg (fun z => z c6)]
      subst c6
      go_wp2_with fail
      refine bodyPost_ret (v := .tuple #[.int .i64 (24 + (um : Int) + (un : Int)), .int .i64 0]) ?_ rfl ⟨by rw [HE.out]; simp, HG5.out⟩
      simp [results, Try.f54, go_sem]
    by_cases cb : ca = 24 + um
    · have HN0 : Hid (n = 0) := HZb.out cb
      have hB : (ca = (24 + (um : Int)).toNat) = True := by simp; omega
      clear HZ24 HZb cb
      go_region_held3 (fun w' => Hid (Gr W0 w')) (first | with_reducible exact HIN.out | with_reducible assumption | with_reducible exact HK5.out) (first | (go_at_call 55; (with_reducible refine (Q1.out _ HIN.out.out).mono ?_); rintro e W5 ⟨rfl, g5⟩; have HK5 : Hid (Hid (Gr W0 W5)) := HIN.out.out.trans g5 (fun _ _ h => h); clear g5) | (go_at_call 33; (with_reducible refine (Q2.out _ _ _ _ HK5.out.out (by omega) (.inl rfl)).mono ?_); rintro e w' ⟨rfl, rfl⟩) | (go_at_call 33; (with_reducible refine (Q3.out _ _ _ _ HK5.out.out (by omega) (.inr HN0.out)).mono ?_); rintro e w' ⟨rfl, rfl⟩))
      have HG5 := hidM (G0.out.trans HK5.out.out (fun _ _ h => h))
      clear HIN HK5 Q1 Q2 Q3
      by_cases c6 : h16n = s2
      rotate_left
      · have hq : ((h16n : Int) != (s2 : Int)) = true := by simp; omega
        have HE : Hid (judgeF lm lb b = (0, 72)) := by show _ = _; rw [HJ3.out, if_neg (by simp), if_neg c5, if_pos c6]
        go_wp2_with fail
        refine bodyPost_ret (v := .tuple #[.int .i64 0, .int .i64 72]) ?_ rfl ⟨by rw [HE.out]; rfl, HG5.out⟩
        simp [results, Try.f54, go_sem]
      have HE : Hid (judgeF lm lb b = (24 + um + un, 0)) := by show _ = _; rw [HJ3.out, if_neg (by simp), if_neg c5, if_neg (fun z => z c6)]
      subst c6
      go_wp2_with fail
      refine bodyPost_ret (v := .tuple #[.int .i64 (24 + (um : Int) + (un : Int)), .int .i64 0]) ?_ rfl ⟨by rw [HE.out]; simp, HG5.out⟩
      simp [results, Try.f54, go_sem]
    have cb2 : ¬ ca = (24 + (um : Int)).toNat := by omega
    clear HZ24 HZb
    go_region_held3 (fun w' => Hid (Gr W0 w')) (first | with_reducible exact HIN.out | with_reducible assumption | with_reducible exact HK5.out) (first | (go_at_call 55; (with_reducible refine (Q1.out _ HIN.out.out).mono ?_); rintro e W5 ⟨rfl, g5⟩; have HK5 : Hid (Hid (Gr W0 W5)) := HIN.out.out.trans g5 (fun _ _ h => h); clear g5) | (go_at_call 33; (with_reducible refine (Q2.out _ _ _ _ HK5.out.out (by omega) (.inl rfl)).mono ?_); rintro e w' ⟨rfl, rfl⟩) | (go_at_call 33; (with_reducible refine (Q3.out _ _ _ _ HK5.out.out (by omega) (.inl (by congr 2; omega))).mono ?_); rintro e w' ⟨rfl, rfl⟩))
    have HG5 := hidM (G0.out.trans HK5.out.out (fun _ _ h => h))
    clear HIN HK5 Q1 Q2 Q3
    by_cases c6 : h16n = s2
    rotate_left
    · have hq : ((h16n : Int) != (s2 : Int)) = true := by simp; omega
      have HE : Hid (judgeF lm lb b = (0, 72)) := by show _ = _; rw [HJ3.out, if_neg (by simp), if_neg c5, if_pos c6]
      go_wp2_with fail
      refine bodyPost_ret (v := .tuple #[.int .i64 0, .int .i64 72]) ?_ rfl ⟨by rw [HE.out]; rfl, HG5.out⟩
      simp [results, Try.f54, go_sem]
    have HE : Hid (judgeF lm lb b = (24 + um + un, 0)) := by show _ = _; rw [HJ3.out, if_neg (by simp), if_neg c5, if_neg (fun z => z c6)]
    subst c6
    go_wp2_with fail
    refine bodyPost_ret (v := .tuple #[.int .i64 (24 + (um : Int) + (un : Int)), .int .i64 0]) ?_ rfl ⟨by rw [HE.out]; simp, HG5.out⟩
    simp [results, Try.f54, go_sem]
/-- judge -/
theorem docJudge_any {ao : Option Addr} {L ca lm lb : Nat} {b : List UInt8} {w : World} (hb : BytesAt w ao b) (hL : b.length = L) (hLm : L ≤ 140737488355000) (hca : L ≤ ca) (hcm : ca ≤ 9223372036854775807) (hlm : lm ≤ 65536) (hlb : lb ≤ 4194304) :
    Calls Try.prog 54 #[.slice ao L ca, .agg #[.int .i64 (lm : Int), .int .i64 (lb : Int)]] w fun e w' => e = .returned (.tuple #[.int .i64 ((judgeF lm lb b).1 : Int), .int .i64 (judgeF lm lb b).2]) ∧ Gr w w' := by
  by_cases c : markedE b ≠ 0 ∨ L < 16
  · have e : judgeF lm lb b = (0, markedE b) := by unfold judgeF; rw [hL, if_pos c]
    rw [e]
    exact docJudge_early hb hL hLm c
  · obtain ⟨B, o, rfl, -⟩ := hb.at (ne_nil (show 0 < b.length by omega))
    exact docJudge_go hb hL hLm hca hcm (by omega) (by omega) hlm hlb
end Go.Proofs.Ytemleibpmaclmaa.Kit

namespace Go.Proofs.Ytemleibpmaclmaa.Kit
open Go.RowKit Go.Shelf Go.Deep
set_option linter.unusedVariables false
attribute [local go_sem] run_store_func

/-! ### the document's reader in memory -/
structure Dr (w W : World) (x lm lb : Nat) (F : List UInt8) (sh : Bool) (A : Nat) (last : Bool) (fo : Option Addr) (fc n : Nat) : Prop where
  xnew : w.heap.size ≤ x
  box : W.heap[x]? = some (.cells #[.int .i64 (lm : Int), .int .i64 (lb : Int), .slice fo n fc, .bool sh, .int .i64 (A : Int), .bool last] 82 (0, 0))
  own : W.ownsRow 0 5 1 (.slice fo n fc) n (bv F)
  fnew : ∀ g, (Value.slice fo n fc).ownBlock = some g → w.heap.size ≤ g
  at' : A ≤ n
/-- the blocks of the document's reader -/
def DIs (x : Nat) (fo : Option Addr) (g : Nat) : Prop := g = x ∨ ∃ a, fo = some a ∧ a.block = g
theorem DIs.own {x : Nat} {fo : Option Addr} {n fc g : Nat} (h : (Value.slice fo n fc).ownBlock = some g) : DIs x fo g := by
  cases fo with
  | none => simp [Value.ownBlock] at h
  | some a => simp [Value.ownBlock] at h; exact .inr ⟨a, rfl, h⟩
theorem DIs.to {x : Nat} {fo : Option Addr} {g : Nat} (h : DIs x fo g) (n fc : Nat) : g = x ∨ (Value.slice fo n fc).ownBlock = some g := by
  rcases h with h | ⟨a, rfl, h⟩
  · exact .inl h
  · exact .inr (by simp [Value.ownBlock, h])
theorem Dr.len {w W : World} {x lm lb : Nat} {F : List UInt8} {sh : Bool} {A : Nat} {last : Bool} {fo : Option Addr} {fc n : Nat} (h : Dr w W x lm lb F sh A last fo fc n) : F.length = n := by have := h.own.1; simpa [bv] using this
theorem Dr.kp {w W W' : World} {x lm lb : Nat} {F : List UInt8} {sh : Bool} {A : Nat} {last : Bool} {fo : Option Addr} {fc n : Nat} (h : Dr w W x lm lb F sh A last fo fc n) (e : ∀ g, DIs x fo g → W'.heap[g]? = W.heap[g]?) : Dr w W' x lm lb F sh A last fo fc n :=
  ⟨h.xnew, (e x (.inl rfl)).trans h.box, own_kp h.own fun g k => e g (.own k), h.fnew, h.at'⟩
theorem Dr.lt {w W : World} {x lm lb : Nat} {F : List UInt8} {sh : Bool} {A : Nat} {last : Bool} {fo : Option Addr} {fc n : Nat} (h : Dr w W x lm lb F sh A last fo fc n) {g : Nat} (k : DIs x fo g) : g < W.heap.size := by
  rcases k.to n fc with rfl | k
  · exact lt_of_heap h.box
  · exact own_lt h.own g k
theorem Dr.grow {w W W' : World} {x lm lb : Nat} {F : List UInt8} {sh : Bool} {A : Nat} {last : Bool} {fo : Option Addr} {fc n : Nat} (h : Dr w W x lm lb F sh A last fo fc n) (g : Gr W W') : Dr w W' x lm lb F sh A last fo fc n :=
  h.kp fun b k => g.block b (h.lt k) id
theorem ce6 {W : World} {B t : Nat} {a b c d e f : Value} (h : W.heap[B]? = some (.cells #[a, b, c, d, e, f] t)) : W.cell? ⟨B, 0, none⟩ = some a ∧ W.cell? ⟨B, 1, none⟩ = some b ∧ W.cell? ⟨B, 2, none⟩ = some c ∧ W.cell? ⟨B, 3, none⟩ = some d ∧ W.cell? ⟨B, 4, none⟩ = some e ∧ W.cell? ⟨B, 5, none⟩ = some f := by simp [World.cell?, h]
/-- a cell of the reader's box is written -/
theorem Dr.set {w W : World} {x lm lb : Nat} {F : List UInt8} {sh : Bool} {A : Nat} {last : Bool} {fo : Option Addr} {fc n : Nat} (h : Dr w W x lm lb F sh A last fo fc n) (j : Nat) (v : Value) {sh' : Bool} {A' : Nat} {last' : Bool} (hA : A' ≤ n)
    (e : (#[.int .i64 (lm : Int), .int .i64 (lb : Int), .slice fo n fc, .bool sh, .int .i64 (A : Int), .bool last] : Array Value).setIfInBounds j v = #[.int .i64 (lm : Int), .int .i64 (lb : Int), .slice fo n fc, .bool sh', .int .i64 (A' : Int), .bool last']) :
    Dr w (W.setCell ⟨x, j, none⟩ v) x lm lb F sh' A' last' fo fc n ∧ Keeps W (W.setCell ⟨x, j, none⟩ v) (fun g => g = x) := by
  have hne : ∀ g, (Value.slice fo n fc).ownBlock = some g → g ≠ x := fun g k q => by
    subst q
    exact absurd (Typ.ne ⟨_, _, h.box⟩ (own_typ h.own k)) (by decide)
  refine ⟨⟨h.xnew, ?_, own_kp h.own fun g k => heap_setCell_other W ⟨x, j, none⟩ g v (fun q => hne g k q), h.fnew, hA⟩, (Keeps.refl W (fun g => g = x)).setCell (p := ⟨x, j, none⟩) (fun _ => rfl) v⟩
  rw [← e]
  exact heap_setCell_same W x j _ 82 v h.box
set_option maxRecDepth 100000 in
/-- End -/
theorem docEnd_any {w W : World} {x lm lb : Nat} {F : List UInt8} {sh : Bool} {A : Nat} {last : Bool} {fo : Option Addr} {fc n : Nat} (h : Dr w W x lm lb F sh A last fo fc n) :
    Calls Try.prog 23 #[.pointer (some ⟨x, 0, none⟩)] W fun e w' => if sh = true then e = .returned (.int .i64 9) ∧ w' = W else e = .returned (.int .i64 0) ∧ Dr w w' x lm lb F true A last fo fc n ∧ Keeps W w' (fun g => g = x) := by
  obtain ⟨-, -, -, c3, -, -⟩ := ce6 h.box
  have f3 := frz h.box 3
  have HF := hidM (h.set 3 (.bool true) (sh' := true) (A' := A) (last' := last) h.at' rfl)
  clear h
  cases sh with
  | true =>
    go_enter Try.func23, Try.ntmps23
    go_wp2_with fail
    go_ret
    exact ⟨rfl, rfl⟩
  | false =>
    go_enter Try.func23, Try.ntmps23
    go_wp2_with fail
    go_ret
    exact ⟨rfl, HF.out⟩
set_option maxRecDepth 100000 in
/-- NewReader, of limits that may not be -/
theorem docNew_bad (a b : Int) (w : World) (h : a < 0 ∨ 65536 < a ∨ b < 0 ∨ 4194304 < b) :
    Calls Try.prog 19 #[.agg #[.int .i64 a, .int .i64 b]] w fun e w' => e = .returned (.tuple #[.pointer none, .int .i64 1]) ∧ Gr w w' := by
  have G0 := hidM (gr_alloc w (.cells #[.int .i64 a, .int .i64 b] 40))
  by_cases h1 : a < 0
  · go_enter Try.func19, Try.ntmps19
    go_wp2_with fail
    refine bodyPost_ret (v := .tuple #[.pointer none, .int .i64 1]) ?_ rfl ⟨rfl, G0.out⟩
    simp [results, Try.f19, go_sem]
  by_cases h2 : 65536 < a
  · go_enter Try.func19, Try.ntmps19
    go_wp2_with fail
    refine bodyPost_ret (v := .tuple #[.pointer none, .int .i64 1]) ?_ rfl ⟨rfl, G0.out⟩
    simp [results, Try.f19, go_sem]
  by_cases h3 : b < 0
  · clear h
    go_enter Try.func19, Try.ntmps19
    go_wp2_with fail
    refine bodyPost_ret (v := .tuple #[.pointer none, .int .i64 1]) ?_ rfl ⟨rfl, G0.out⟩
    simp [results, Try.f19, go_sem]
  have h4 : 4194304 < b := by omega
  clear h
  go_enter Try.func19, Try.ntmps19
  go_wp2_with fail
  refine bodyPost_ret (v := .tuple #[.pointer none, .int .i64 1]) ?_ rfl ⟨rfl, G0.out⟩
  simp [results, Try.f19, go_sem]
set_option maxRecDepth 100000 in
/-- NewReader -/
theorem docNew_ok (lm lb : Nat) (w : World) (hlm : lm ≤ 65536) (hlb : lb ≤ 4194304) :
    Calls Try.prog 19 #[.agg #[.int .i64 (lm : Int), .int .i64 (lb : Int)]] w fun e w' => ∃ x, e = .returned (.tuple #[.pointer (some ⟨x, 0, none⟩), .int .i64 0]) ∧ Gr w w' ∧ Dr w w' x lm lb [] false 0 false none 0 0 := by
  have G0 := hidM (gr_alloc w (.cells #[.int .i64 (lm : Int), .int .i64 (lb : Int)] 40))
  have h1 : ¬ (lm : Int) < 0 := by omega
  have h2 : ¬ 65536 < (lm : Int) := by omega
  have h3 : ¬ (lb : Int) < 0 := by omega
  have h4 : ¬ 4194304 < (lb : Int) := by omega
  go_enter Try.func19, Try.ntmps19
  go_wp2_with fail
  have HD : Hid (∀ V : World, Gr w V → Gr w (V.alloc (.cells #[.int .i64 (lm : Int), .int .i64 (lb : Int), .slice none 0 0, .bool false, .int .i64 0, .bool false] 82)) ∧ Dr w (V.alloc (.cells #[.int .i64 (lm : Int), .int .i64 (lb : Int), .slice none 0 0, .bool false, .int .i64 0, .bool false] 82)) V.heap.size lm lb [] false 0 false none 0 0) := fun V g => ⟨g.trans (gr_alloc V _) (fun _ _ h => h), g.size, heap_alloc_new V _, World.ownsRow_nil _ _ _ _, fun g e => by simp [Value.ownBlock] at e, Nat.le_refl _⟩
  refine bodyPost_ret (v := .tuple #[.pointer (some ⟨_, 0, none⟩), .int .i64 0]) ?_ rfl ⟨_, rfl, HD.out _ G0.out⟩
  simp [results, Try.f19, go_sem]
end Go.Proofs.Ytemleibpmaclmaa.Kit

namespace Go.Proofs.Ytemleibpmaclmaa.Kit
open Go.RowKit Go.Shelf Go.Deep
set_option linter.unusedVariables false
attribute [local go_sem] run_store_func

/-! ### the document's Feed -/
/-- bytes of the reader's row stay where they lie, whether it has grown in place or not -/
def Stay (W W' : World) (fo : Option Addr) (n : Nat) : Prop := ∀ X o, fo = some ⟨X, o, none⟩ → Typ W' X 5 ∧ ∀ j, j < n → W'.cell? ⟨X, j, none⟩ = W.cell? ⟨X, j, none⟩
set_option maxRecDepth 100000 in
set_option maxHeartbeats 2000000 in
theorem docFeed_any {w W : World} {x lm lb : Nat} {F q : List UInt8} {sh : Bool} {A : Nat} {last : Bool} {fo ao : Option Addr} {fc n L ca : Nat} (h : Dr w W x lm lb F sh A last fo fc n) (hq : BytesAt W ao q) (hL : q.length = L) (hb : n + L ≤ 140737488355000) (hw : w.heap.size ≤ W.heap.size) :
    Calls Try.prog 21 #[.pointer (some ⟨x, 0, none⟩), .slice ao L ca] W fun e w' => if sh = true then e = .returned (.int .i64 9) ∧ w' = W else e = .returned (.int .i64 0) ∧ ∃ fo' fc', Dr w w' x lm lb (F ++ q) false A last fo' fc' (n + L) ∧ Keeps W w' (fun g => DIs x fo g) ∧ ((Value.slice fo' (n + L) fc').ownBlock = (Value.slice fo n fc).ownBlock ∨ ∀ g, (Value.slice fo' (n + L) fc').ownBlock = some g → W.heap.size ≤ g) ∧ Stay W w' fo n := by
  obtain ⟨-, -, c2, c3, -, -⟩ := ce6 h.box
  have HD := hidM h
  have hsrc := src_all (ca := ca) hq
  rw [hL] at hsrc
  have HS := hidM hsrc
  have HL := hidM hL
  clear h hq hL hsrc
  cases sh with
  | true =>
    go_enter Try.func21, Try.ntmps21
    go_wp2_with fail
    go_ret
    exact ⟨rfl, rfl⟩
  | false =>
    go_enter Try.func21, Try.ntmps21
    go_wp2_with (at_builtin; refine Hid.out ?_)
    unfold Hid
    refine wpList_append_two _ rfl (.tmp 13) (.tmp 14) 22 22 rfl 5 (.int .u8 0) 1 Try.underlying22 info5 rfl (.slice fo n fc) n _ rfl HD.out.own _ L (bv q) rfl HS.out (by omega) (by omega) ?_
    intro v' W1 hown hgrow hblk
    obtain ⟨fo1, fc1, rfl⟩ := own_form1 hown
    obtain ⟨hb1, hF⟩ := fl_mk (j := 2) HD.out.box (by decide) HD.out.own (Keeps.refl W _) hown hgrow (hblk.imp id And.left)
    have HF := hidM hF
    obtain ⟨-, -, t2, -⟩ := ce6 hb1
    have t2f := frz hb1 2
    have HB1 := hidM hb1
    have HO := hidM hown
    have HBk := hidM hblk
    clear hown hgrow hblk hF c2 c3 hb1
    go_wp2_with fail
    go_ret
    refine ⟨rfl, fo1, fc1, ⟨HD.out.xnew, HF.out.box, by have := HF.out.own; rw [bv_app]; exact this, fun g e => ?_, by have := HD.out.at'; omega⟩, HF.out.kp.mono fun b _ e => ?_, HF.out.blk, fun X o e => ?_⟩
    · rcases HF.out.blk with k | k
      · rw [k] at e; exact HD.out.fnew g e
      · exact Nat.le_trans hw (k g e)
    · rcases e with e | e
      · exact .inl e
      · exact .own e
    · subst e
      have hX : X ≠ x := fun q => by
        subst q
        exact absurd (Typ.ne ⟨_, _, HD.out.box⟩ (own_typ HD.out.own rfl)) (by decide)
      have tX : Typ (W1.setCell ⟨x, 2, none⟩ (.slice fo1 (n + L) fc1)) X 5 := by
        have tW : Typ W1 X 5 := by
          rcases HBk.out with k | k
          · exact own_typ HO.out (k.trans rfl)
          · exact (own_typ HD.out.own rfl).keep (Keeps.ofGrown k.2) (by simp)
        obtain ⟨cc, ff, hh⟩ := tW
        exact ⟨cc, ff, (heap_setCell_other W1 ⟨x, 2, none⟩ X _ hX).trans hh⟩
      refine ⟨tX, fun j hj => ?_⟩
      have e1 : (W1.setCell ⟨x, 2, none⟩ (.slice fo1 (n + L) fc1)).cell? ⟨X, j, none⟩ = W1.cell? ⟨X, j, none⟩ := World.cell?_of_block (w := W1) (heap_setCell_other W1 ⟨x, 2, none⟩ X _ hX)
      rw [e1]
      rcases HBk.out with k | k
      · have hlt : X < W.heap.size := own_lt HD.out.own X rfl
        have hFl := HD.out.len
        rcases own_off HO.out with ⟨z1, z2⟩ | ⟨X', rfl⟩
        · omega
        · have ho0 : o = 0 := by
            rcases own_off HD.out.own with ⟨z1, -⟩ | ⟨X2, z1⟩
            · cases z1
            · cases z1; rfl
          subst ho0
          have hXX : X' = X := by simpa [Value.ownBlock] using k
          subst hXX
          obtain ⟨B1, o1, z1, d1⟩ := (bytes_of_own HD.out.own).at (ne_nil (show j < F.length by omega))
          cases z1
          have hO2 : W1.ownsRow 0 5 1 (.slice (some ⟨X', 0, none⟩) (n + L) fc1) (n + L) (bv (F ++ q)) := by have := HO.out; rw [bv_app]; exact this
          obtain ⟨B2, o2, z2, d2⟩ := (bytes_of_own hO2).at (ne_nil (show j < (F ++ q).length by rw [List.length_append]; omega))
          cases z2
          have g1 := d1 j (by omega)
          have g2 := d2 j (by rw [List.length_append]; omega)
          rw [Nat.zero_add] at g1 g2
          rw [g1, g2, List.getD_eq_getElem?_getD, List.getD_eq_getElem?_getD, List.getElem?_append_left (by omega)]
      · exact (Keeps.ofGrown k.2).cell (own_lt HD.out.own X rfl) (by simp)
end Go.Proofs.Ytemleibpmaclmaa.Kit

namespace Go.Proofs.Ytemleibpmaclmaa.Kit
open Go.RowKit Go.Shelf Go.Deep
set_option linter.unusedVariables false
attribute [local go_sem] run_store_func

/-! ### the document's Next -/
def Cut (fo : Option Addr) (n fc A : Nat) (bo : Option Addr) (bc : Nat) : Prop :=
  (fo = none ∧ n = 0 ∧ fc = 0 ∧ A = 0 ∧ bo = none ∧ bc = 0) ∨ (∃ X, fo = some ⟨X, 0, none⟩ ∧ fc = A ∧ n = A ∧ bo = some ⟨X, 0, none⟩ ∧ bc = 0) ∨ (∃ X, fo = some ⟨X, 0, none⟩ ∧ A < fc ∧ A ≤ n ∧ bo = some ⟨X, A, none⟩ ∧ bc = fc - A)
theorem Dr.rest {w W : World} {x lm lb : Nat} {F : List UInt8} {sh : Bool} {A : Nat} {last : Bool} {fo : Option Addr} {fc n : Nat} (h : Dr w W x lm lb F sh A last fo fc n) :
    ∃ bo bc, Cut fo n fc A bo bc ∧ BytesAt W bo (F.drop A) ∧ n - A ≤ bc ∧ bc ≤ 9223372036854775807 ∧ n ≤ fc := by
  have hA := h.at'
  have hl := h.len
  rcases h.own.2 with ⟨z, z0⟩ | ⟨g, cp, cur, z, _, hg, h1, h2, h3, h4⟩
  · cases z
    exact ⟨none, 0, .inl ⟨rfl, z0, rfl, by omega, rfl, rfl⟩, fun hn => absurd (List.drop_eq_nil_of_le (by omega)) hn, by omega, by omega, by omega⟩
  · cases z
    unfold maxLen at h2
    by_cases c : A = fc
    · subst c
      exact ⟨some ⟨g, 0, none⟩, 0, .inr (.inl ⟨g, rfl, rfl, by omega, rfl, rfl⟩), fun hn => absurd (List.drop_eq_nil_of_le (by omega)) hn, by omega, by omega, h1⟩
    · refine ⟨some ⟨g, A, none⟩, fc - A, .inr (.inr ⟨g, rfl, by omega, hA, rfl, rfl⟩), fun hn => ?_, by omega, by omega, h1⟩
      have hlt : A < F.length := by
        rcases Nat.lt_or_ge A F.length with q | q
        · exact q
        · exact absurd (List.drop_eq_nil_of_le q) hn
      obtain ⟨B', o', e, hc⟩ := (bytes_of_own h.own).at (ne_nil hlt)
      cases e
      refine ⟨g, A, rfl, fun j hj => ?_⟩
      rw [List.length_drop] at hj
      have := hc (A + j) (by omega)
      rw [Nat.zero_add] at this
      rw [this]
      congr 3
      rw [List.getElem_drop, List.getD_eq_getElem?_getD, List.getElem?_eq_getElem (by omega)]
      rfl
set_option maxRecDepth 100000 in
set_option maxHeartbeats 8000000 in
theorem docNext_no {w W : World} {x lm lb : Nat} {F : List UInt8} {sh : Bool} {A : Nat} {last : Bool} {fo : Option Addr} {fc n : Nat} (h : Dr w W x lm lb F sh A last fo fc n) (hn : n ≤ 140737488355000) (hlm : lm ≤ 65536) (hlb : lb ≤ 4194304) (hno : last = true ∨ (judgeF lm lb (F.drop A)).1 = 0) :
    Calls Try.prog 41 #[.pointer (some ⟨x, 0, none⟩)] W fun e w' => e = .returned (.tuple #[.agg #[.slice none 0 0, .slice none 0 0], .int .i64 (docN lm lb last sh (F.drop A)).1, .int .i64 (docN lm lb last sh (F.drop A)).2]) ∧ Gr W w' := by
  obtain ⟨bo, bc, hcut, hbb, hbc, hbm, hnf⟩ := h.rest
  have HCs := hidM hcut
  obtain ⟨b, hb⟩ : ∃ b, F.drop A = b := ⟨_, rfl⟩
  rw [hb] at hno hbb ⊢
  have hra := heap_alloc_new W (.cells #[.slice none 0 0, .slice none 0 0] 24)
  have gA := gr_alloc W (.cells #[.slice none 0 0, .slice none 0 0] 24)
  obtain ⟨W0, hW0⟩ : ∃ W0, W0 = W.alloc (.cells #[.slice none 0 0, .slice none 0 0] 24) := ⟨_, rfl⟩
  obtain ⟨ra, hrae⟩ : ∃ ra, ra = W.heap.size := ⟨_, rfl⟩
  rw [← hW0] at hra gA
  rw [← hrae] at hra
  have HD0 := hidM (h.grow gA)
  have HB0 := hidM (hbb.gr gA)
  have HGA := hidM gA
  have HRa := hidM hra
  have HIN : Hid (W0.drew.cell? ⟨x, 2, none⟩ = some (.slice fo n fc) ∧ W0.drew.cell? ⟨x, 4, none⟩ = some (.int .i64 (A : Int))) := by
    obtain ⟨-, -, c2, -, c4, -⟩ := ce6 (HD0.out.grow ((Keeps.refl W0 _).drew)).box
    exact ⟨c2, c4⟩
  have hA0 : (0 : Int) ≤ (A : Int) := by omega
  have hAn : (A : Int) ≤ (n : Int) := by have := h.at'; omega
  have hnfI : (n : Int) ≤ (fc : Int) := by omega
  have HFl := hidM h.len
  have HAt := hidM h.at'
  have HRl : Hid (W.heap.size ≤ ra) := by show _ ≤ _; omega
  clear h hcut hbb hra gA
  go_enter Try.func41, Try.ntmps41
  go_wp2_with fail
  rw [← hrae, ← hW0]
  refine wp_region_held_drew (S := fun w' => w'.cell? ⟨x, 2, none⟩ = some (.slice fo n fc) ∧ w'.cell? ⟨x, 4, none⟩ = some (.int .i64 (A : Int))) (by kernel_rfl) (HIN.out) (fun hHeld => ?_)
  refine wpAnyH_take (i := 0) (oi := { dst := some 10, op := Op.move (Operand.tmp 0), type := 48, pos := "ref.go:157", after := #[], guard := none }) (v := ?v0a1) rfl (by kernel_rfl) (by kernel_rfl) (by kernel_rfl) (fun _ _ _ h => h) (Or.inl ⟨by rfl, ?y0a1⟩) (by assumption) ?r0a1
  case y0a1 => (intro w hSw; obtain ⟨s1, s2⟩ := hSw; go_simp; (try with_reducible rfl))
  (try simp only [Act.put]); (try simp only [List.setIfInBounds_toArray]); (try simp only [List.set_cons_succ]); (try simp only [List.set_cons_zero])
  refine wpAnyH_take (i := 1) (oi := { dst := some 11, op := Op.nilCheck (Operand.tmp 10), type := 0, pos := "ref.go:157", after := #[{ on := 0, ground := Ground.data }], guard := none }) (v := ?v1a2) rfl (by kernel_rfl) (by kernel_rfl) (by kernel_rfl) (fun _ _ _ h => h) (Or.inl ⟨by rfl, ?y1a2⟩) (by assumption) ?r1a2
  case y1a2 => (intro w hSw; obtain ⟨s1, s2⟩ := hSw; go_simp; (try with_reducible rfl))
  (try simp only [Act.put]); (try simp only [List.setIfInBounds_toArray]); (try simp only [List.set_cons_succ]); (try simp only [List.set_cons_zero])
  refine wpAnyH_take (i := 2) (oi := { dst := some 12, op := Op.fieldAddr 82 (Operand.tmp 11) 1, type := 0, pos := "ref.go:157", after := #[{ on := 1, ground := Ground.data }], guard := none }) (v := ?v2a3) rfl (by kernel_rfl) (by kernel_rfl) (by kernel_rfl) (fun _ _ _ h => h) (Or.inl ⟨by rfl, ?y2a3⟩) (by assumption) ?r2a3
  case y2a3 => (intro w hSw; obtain ⟨s1, s2⟩ := hSw; go_simp; (try with_reducible rfl))
  (try simp only [Act.put]); (try simp only [List.setIfInBounds_toArray]); (try simp only [List.set_cons_succ]); (try simp only [List.set_cons_zero])
  refine wpAnyH_take (i := 3) (oi := { dst := some 13, op := Op.load 22 (Operand.tmp 12), type := 22, pos := "ref.go:157", after := #[{ on := 2, ground := Ground.data }], guard := none }) (v := ?v3a4) rfl (by kernel_rfl) (by kernel_rfl) (by kernel_rfl) (fun _ _ _ h => h) (Or.inl ⟨by rfl, ?y3a4⟩) (by assumption) ?r3a4
  case y3a4 => (intro w hSw; obtain ⟨s1, s2⟩ := hSw; go_simp; (try with_reducible rfl))
  (try simp only [Act.put]); (try simp only [List.setIfInBounds_toArray]); (try simp only [List.set_cons_succ]); (try simp only [List.set_cons_zero])
  refine wpAnyH_take (i := 4) (oi := { dst := some 14, op := Op.move (Operand.tmp 0), type := 48, pos := "ref.go:157", after := #[], guard := none }) (v := ?v4a5) rfl (by kernel_rfl) (by kernel_rfl) (by kernel_rfl) (fun _ _ _ h => h) (Or.inl ⟨by rfl, ?y4a5⟩) (by assumption) ?r4a5
  case y4a5 => (intro w hSw; obtain ⟨s1, s2⟩ := hSw; go_simp; (try with_reducible rfl))
  (try simp only [Act.put]); (try simp only [List.setIfInBounds_toArray]); (try simp only [List.set_cons_succ]); (try simp only [List.set_cons_zero])
  refine wpAnyH_take (i := 5) (oi := { dst := some 15, op := Op.nilCheck (Operand.tmp 14), type := 0, pos := "ref.go:157", after := #[{ on := 4, ground := Ground.data }], guard := none }) (v := ?v5a6) rfl (by kernel_rfl) (by kernel_rfl) (by kernel_rfl) (fun _ _ _ h => h) (Or.inl ⟨by rfl, ?y5a6⟩) (by assumption) ?r5a6
  case y5a6 => (intro w hSw; obtain ⟨s1, s2⟩ := hSw; go_simp; (try with_reducible rfl))
  (try simp only [Act.put]); (try simp only [List.setIfInBounds_toArray]); (try simp only [List.set_cons_succ]); (try simp only [List.set_cons_zero])
  refine wpAnyH_take (i := 6) (oi := { dst := some 16, op := Op.fieldAddr 82 (Operand.tmp 15) 3, type := 0, pos := "ref.go:157", after := #[{ on := 5, ground := Ground.data }], guard := none }) (v := ?v6a7) rfl (by kernel_rfl) (by kernel_rfl) (by kernel_rfl) (fun _ _ _ h => h) (Or.inl ⟨by rfl, ?y6a7⟩) (by assumption) ?r6a7
  case y6a7 => (intro w hSw; obtain ⟨s1, s2⟩ := hSw; go_simp; (try with_reducible rfl))
  (try simp only [Act.put]); (try simp only [List.setIfInBounds_toArray]); (try simp only [List.set_cons_succ]); (try simp only [List.set_cons_zero])
  refine wpAnyH_take (i := 7) (oi := { dst := some 17, op := Op.load 3 (Operand.tmp 16), type := 3, pos := "ref.go:157", after := #[{ on := 6, ground := Ground.data }], guard := none }) (v := ?v7a8) rfl (by kernel_rfl) (by kernel_rfl) (by kernel_rfl) (fun _ _ _ h => h) (Or.inl ⟨by rfl, ?y7a8⟩) (by assumption) ?r7a8
  case y7a8 => (intro w hSw; obtain ⟨s1, s2⟩ := hSw; go_simp; (try with_reducible rfl))
  (try simp only [Act.put]); (try simp only [List.setIfInBounds_toArray]); (try simp only [List.set_cons_succ]); (try simp only [List.set_cons_zero])
  refine wpAnyH_take (i := 8) (oi := { dst := some 18, op := Op.slice 22 (Operand.tmp 13) (some (Operand.tmp 17)) none none, type := 22, pos := "ref.go:157", after := #[{ on := 3, ground := Ground.data }, { on := 7, ground := Ground.data }], guard := none }) (v := .slice bo (n - A) bc) rfl (by kernel_rfl) (by kernel_rfl) (by kernel_rfl) (fun _ _ _ h => h) (Or.inl ⟨by rfl, ?y8a⟩) (by assumption) ?r8a
  case y8a => (intro w hSw; clear HIN; rcases HCs.out with ⟨e1, e2, e3, e4, e5, e6⟩ | ⟨X, e1, e2, e3, e4, e5⟩ | ⟨X, e1, e2, e3, e4, e5⟩; (subst e1 e2 e3 e4 e5 e6; go_simp; try rfl); (subst e1 e2 e3 e4 e5; go_simp; try rfl); (subst e1 e4 e5; have c9 : ¬ fc = A := (by omega); go_simp; try rfl))
  (try simp only [Act.put]); (try simp only [List.setIfInBounds_toArray]); (try simp only [List.set_cons_succ]); (try simp only [List.set_cons_zero])
  refine wpAnyH_take (i := 9) (oi := { dst := some 5, op := Op.assign (Operand.tmp 18), type := 22, pos := "ref.go:157", after := #[{ on := 8, ground := Ground.data }, { on := 0, ground := Ground.phase }, { on := 1, ground := Ground.phase }, { on := 2, ground := Ground.phase }, { on := 3, ground := Ground.phase }, { on := 4, ground := Ground.phase }, { on := 5, ground := Ground.phase }, { on := 6, ground := Ground.phase }, { on := 7, ground := Ground.phase }, { on := 8, ground := Ground.phase }], guard := none }) (v := ?v9a9) rfl (by kernel_rfl) (by kernel_rfl) (by kernel_rfl) (fun _ _ _ h => h) (Or.inl ⟨by rfl, ?y9a9⟩) (by assumption) ?r9a9
  case y9a9 => (intro w hSw; obtain ⟨s1, s2⟩ := hSw; go_simp; (try with_reducible rfl))
  (try simp only [Act.put]); (try simp only [List.setIfInBounds_toArray]); (try simp only [List.set_cons_succ]); (try simp only [List.set_cons_zero])
  refine wpAnyH_done (by kernel_rfl) ?_ _
  clear hHeld
  obtain ⟨V0, hV0⟩ : ∃ V0, W0.drew = V0 := ⟨_, rfl⟩
  have gD : Gr W0 V0 := by rw [← hV0]; exact (Keeps.refl W0 _).drew
  have HDV := hidM (HD0.out.grow gD)
  have HBV := hidM (HB0.out.gr gD)
  have HGV := hidM (HGA.out.trans gD (fun _ _ h => h))
  have hraV := (gD.block ra (lt_of_heap HRa.out) id).trans HRa.out
  obtain ⟨L, hL⟩ : ∃ L, n - A = L := ⟨_, rfl⟩
  rw [hV0, hL]
  rw [hL] at hbc
  obtain ⟨c0, c1, -, c3, -, c5⟩ := ce6 HDV.out.box
  have HBl : Hid ((F.drop A).length = L) := by show _ = _; rw [List.length_drop, HFl.out]; exact hL
  rw [hb] at HBl
  have hLn : L ≤ 140737488355000 := by omega
  clear HIN HD0 HB0 HGA HRa gD hV0 hb hrae hW0 HCs hA0 hAn hnfI
  cases last with
  | true =>
    clear hno
    by_cases c : L = 0
    · have cI : ¬ ((0 : Int) < (L : Int)) := by omega
      have HE : Hid (docN lm lb true sh b = (3, 0)) := by show _ = _; unfold docN; rw [if_pos rfl, if_pos (List.eq_nil_of_length_eq_zero (by rw [HBl.out]; exact c))]
      clear c
      go_wp2_with (with_reducible show wpList Try.prog _ _ (Oper.mk none (Op.store 24 (Operand.tmp 2) _) _ _ _ _ :: _) _ _; refine Hid.out ?_)
      unfold Hid
      refine wpList_store_off rfl 24 (.tmp 2) (.tmp 27) rfl ra 0 #[.slice none 0 0, .slice none 0 0] hraV (by rfl) (by rfl) (by simp) (by kernel_rfl) (by simp [Value.oneCell']) ?_
      obtain ⟨G, hG⟩ : ∃ G, G = World.setRow V0 ra ((#[.slice none 0 0, .slice none 0 0] : Array Value).toList.take 0 ++ (#[.slice none 0 0, .slice none 0 0] : Array Value).toList ++ (#[.slice none 0 0, .slice none 0 0] : Array Value).toList.drop (0 + (#[.slice none 0 0, .slice none 0 0] : Array Value).size)).toArray := ⟨_, rfl⟩
      rw [← hG]
      have hbG : G.heap[ra]? = some (.cells #[.slice none 0 0, .slice none 0 0] 24 (0, 0)) := by rw [hG]; exact setRow_heap V0 ra _ _ 24 (0, 0) hraV
      have hkG : Gr W G := by
        have k1 : Keeps V0 G (fun z => z = ra) := by rw [hG]; exact ⟨rfl, rfl, rfl, by simp, fun kk hk hn => setRow_other V0 ra kk _ hn⟩
        exact HGV.out.trans k1 (fun j hj e => by have := HRl.out; omega)
      have HKG := hidM hkG
      have hld : (loadVar 24 ⟨ra, 0, none⟩).run Try.prog G = .ok (.agg #[.slice none 0 0, .slice none 0 0]) G := by
        refine run_loadVar_mid G ra 0 24 [.slice none 0 0, .slice none 0 0] _ (fun j v hj => ?_) Try.underlying24 rfl (by kernel_rfl)
        rw [Nat.zero_add]
        simp only [World.cell?, hbG]
        simpa using hj
      clear hG hbG hkG
      go_wp2_with fail
      refine bodyPost_ret (v := .tuple #[.agg #[.slice none 0 0, .slice none 0 0], .int .i64 3, .int .i64 0]) ?_ rfl ⟨by rw [HE.out], HKG.out⟩
      exact results_cell3 (t := 2) (a := 3) (b := 4) (ty := 24) rfl rfl hld
    · have cI : (0 : Int) < (L : Int) := by omega
      have HE : Hid (docN lm lb true sh b = (4, 74)) := by show _ = _; unfold docN; rw [if_pos rfl, if_neg (fun z => by have := HBl.out; rw [z] at this; simp at this; omega)]
      clear c
      go_wp2_with (with_reducible show wpList Try.prog _ _ (Oper.mk none (Op.store 24 (Operand.tmp 2) _) _ _ _ _ :: _) _ _; refine Hid.out ?_)
      unfold Hid
      refine wpList_store_off rfl 24 (.tmp 2) (.tmp 26) rfl ra 0 #[.slice none 0 0, .slice none 0 0] hraV (by rfl) (by rfl) (by simp) (by kernel_rfl) (by simp [Value.oneCell']) ?_
      obtain ⟨G, hG⟩ : ∃ G, G = World.setRow V0 ra ((#[.slice none 0 0, .slice none 0 0] : Array Value).toList.take 0 ++ (#[.slice none 0 0, .slice none 0 0] : Array Value).toList ++ (#[.slice none 0 0, .slice none 0 0] : Array Value).toList.drop (0 + (#[.slice none 0 0, .slice none 0 0] : Array Value).size)).toArray := ⟨_, rfl⟩
      rw [← hG]
      have hbG : G.heap[ra]? = some (.cells #[.slice none 0 0, .slice none 0 0] 24 (0, 0)) := by rw [hG]; exact setRow_heap V0 ra _ _ 24 (0, 0) hraV
      have hkG : Gr W G := by
        have k1 : Keeps V0 G (fun z => z = ra) := by rw [hG]; exact ⟨rfl, rfl, rfl, by simp, fun kk hk hn => setRow_other V0 ra kk _ hn⟩
        exact HGV.out.trans k1 (fun j hj e => by have := HRl.out; omega)
      have HKG := hidM hkG
      have hld : (loadVar 24 ⟨ra, 0, none⟩).run Try.prog G = .ok (.agg #[.slice none 0 0, .slice none 0 0]) G := by
        refine run_loadVar_mid G ra 0 24 [.slice none 0 0, .slice none 0 0] _ (fun j v hj => ?_) Try.underlying24 rfl (by kernel_rfl)
        rw [Nat.zero_add]
        simp only [World.cell?, hbG]
        simpa using hj
      clear hG hbG hkG
      go_wp2_with fail
      refine bodyPost_ret (v := .tuple #[.agg #[.slice none 0 0, .slice none 0 0], .int .i64 4, .int .i64 74]) ?_ rfl ⟨by rw [HE.out], HKG.out⟩
      exact results_cell3 (t := 2) (a := 3) (b := 4) (ty := 24) rfl rfl hld
  | false =>
    have hj0 : (judgeF lm lb b).1 = 0 := by
      rcases hno with q | q
      · cases q
      · exact q
    clear hno
    obtain ⟨j2, hj2⟩ : ∃ z, (judgeF lm lb b).2 = z := ⟨_, rfl⟩
    have HJ : Hid (Calls Try.prog 54 #[.slice bo L bc, .agg #[.int .i64 (lm : Int), .int .i64 (lb : Int)]] V0 fun e w' => e = .returned (.tuple #[.int .i64 0, .int .i64 j2]) ∧ Gr V0 w') := by
      have := docJudge_any (lm := lm) (lb := lb) HBV.out HBl.out hLn hbc hbm hlm hlb
      rw [hj0, hj2] at this
      exact this
    have HEq : Hid (docN lm lb false sh b = if j2 ≠ 0 then (4, j2) else if sh = true then (4, 73) else (1, 0)) := by
      show _ = _
      unfold docN
      rw [if_neg (by simp), if_pos hj0, hj2]
    clear hj0 hj2
    go_wp2_with (go_at_call 54; refine Hid.out ?_)
    unfold Hid
    refine Calls.mono HJ.out ?_
    rintro e V1 ⟨rfl, g1⟩
    have hra1 := (g1.block ra (lt_of_heap hraV) id).trans hraV
    have HG1 := hidM (HGV.out.trans g1 (fun _ _ h => h))
    have c3' := g1.cell' c3 id
    clear HJ g1 hraV c0 c1 c3 c5 HGV HBV HDV
    by_cases c : j2 = 0
    rotate_left
    · have cI : (j2 != 0) = true := by simpa using c
      have HE : Hid (docN lm lb false sh b = (4, j2)) := by show _ = _; rw [HEq.out, if_pos c]
      clear HEq c
      go_wp2_with (with_reducible show wpList Try.prog _ _ (Oper.mk none (Op.store 24 (Operand.tmp 2) _) _ _ _ _ :: _) _ _; refine Hid.out ?_)
      unfold Hid
      refine wpList_store_off rfl 24 (.tmp 2) (.tmp 39) rfl ra 0 #[.slice none 0 0, .slice none 0 0] hra1 (by rfl) (by rfl) (by simp) (by kernel_rfl) (by simp [Value.oneCell']) ?_
      obtain ⟨G, hG⟩ : ∃ G, G = World.setRow V1 ra ((#[.slice none 0 0, .slice none 0 0] : Array Value).toList.take 0 ++ (#[.slice none 0 0, .slice none 0 0] : Array Value).toList ++ (#[.slice none 0 0, .slice none 0 0] : Array Value).toList.drop (0 + (#[.slice none 0 0, .slice none 0 0] : Array Value).size)).toArray := ⟨_, rfl⟩
      rw [← hG]
      have hbG : G.heap[ra]? = some (.cells #[.slice none 0 0, .slice none 0 0] 24 (0, 0)) := by rw [hG]; exact setRow_heap V1 ra _ _ 24 (0, 0) hra1
      have hkG : Gr W G := by
        have k1 : Keeps V1 G (fun z => z = ra) := by rw [hG]; exact ⟨rfl, rfl, rfl, by simp, fun kk hk hn => setRow_other V1 ra kk _ hn⟩
        exact HG1.out.trans k1 (fun j hj e => by have := HRl.out; omega)
      have HKG := hidM hkG
      have hld : (loadVar 24 ⟨ra, 0, none⟩).run Try.prog G = .ok (.agg #[.slice none 0 0, .slice none 0 0]) G := by
        refine run_loadVar_mid G ra 0 24 [.slice none 0 0, .slice none 0 0] _ (fun j v hj => ?_) Try.underlying24 rfl (by kernel_rfl)
        rw [Nat.zero_add]
        simp only [World.cell?, hbG]
        simpa using hj
      clear hG hbG hkG
      go_wp2_with fail
      refine bodyPost_ret (v := .tuple #[.agg #[.slice none 0 0, .slice none 0 0], .int .i64 4, .int .i64 j2]) ?_ rfl ⟨by rw [HE.out], HKG.out⟩
      exact results_cell3 (t := 2) (a := 3) (b := 4) (ty := 24) rfl rfl hld
    subst c
    cases sh with
    | true =>
      have HE : Hid (docN lm lb false true b = (4, 73)) := by show _ = _; rw [HEq.out, if_neg (by simp), if_pos rfl]
      clear HEq
      go_wp2_with (with_reducible show wpList Try.prog _ _ (Oper.mk none (Op.store 24 (Operand.tmp 2) _) _ _ _ _ :: _) _ _; refine Hid.out ?_)
      unfold Hid
      refine wpList_store_off rfl 24 (.tmp 2) (.tmp 47) rfl ra 0 #[.slice none 0 0, .slice none 0 0] hra1 (by rfl) (by rfl) (by simp) (by kernel_rfl) (by simp [Value.oneCell']) ?_
      obtain ⟨G, hG⟩ : ∃ G, G = World.setRow V1 ra ((#[.slice none 0 0, .slice none 0 0] : Array Value).toList.take 0 ++ (#[.slice none 0 0, .slice none 0 0] : Array Value).toList ++ (#[.slice none 0 0, .slice none 0 0] : Array Value).toList.drop (0 + (#[.slice none 0 0, .slice none 0 0] : Array Value).size)).toArray := ⟨_, rfl⟩
      rw [← hG]
      have hbG : G.heap[ra]? = some (.cells #[.slice none 0 0, .slice none 0 0] 24 (0, 0)) := by rw [hG]; exact setRow_heap V1 ra _ _ 24 (0, 0) hra1
      have hkG : Gr W G := by
        have k1 : Keeps V1 G (fun z => z = ra) := by rw [hG]; exact ⟨rfl, rfl, rfl, by simp, fun kk hk hn => setRow_other V1 ra kk _ hn⟩
        exact HG1.out.trans k1 (fun j hj e => by have := HRl.out; omega)
      have HKG := hidM hkG
      have hld : (loadVar 24 ⟨ra, 0, none⟩).run Try.prog G = .ok (.agg #[.slice none 0 0, .slice none 0 0]) G := by
        refine run_loadVar_mid G ra 0 24 [.slice none 0 0, .slice none 0 0] _ (fun j v hj => ?_) Try.underlying24 rfl (by kernel_rfl)
        rw [Nat.zero_add]
        simp only [World.cell?, hbG]
        simpa using hj
      clear hG hbG hkG
      go_wp2_with fail
      refine bodyPost_ret (v := .tuple #[.agg #[.slice none 0 0, .slice none 0 0], .int .i64 4, .int .i64 73]) ?_ rfl ⟨by rw [HE.out], HKG.out⟩
      exact results_cell3 (t := 2) (a := 3) (b := 4) (ty := 24) rfl rfl hld
    | false =>
      have HE : Hid (docN lm lb false false b = (1, 0)) := by show _ = _; rw [HEq.out, if_neg (by simp), if_neg (by simp)]
      clear HEq
      go_wp2_with (with_reducible show wpList Try.prog _ _ (Oper.mk none (Op.store 24 (Operand.tmp 2) _) _ _ _ _ :: _) _ _; refine Hid.out ?_)
      unfold Hid
      refine wpList_store_off rfl 24 (.tmp 2) (.tmp 48) rfl ra 0 #[.slice none 0 0, .slice none 0 0] hra1 (by rfl) (by rfl) (by simp) (by kernel_rfl) (by simp [Value.oneCell']) ?_
      obtain ⟨G, hG⟩ : ∃ G, G = World.setRow V1 ra ((#[.slice none 0 0, .slice none 0 0] : Array Value).toList.take 0 ++ (#[.slice none 0 0, .slice none 0 0] : Array Value).toList ++ (#[.slice none 0 0, .slice none 0 0] : Array Value).toList.drop (0 + (#[.slice none 0 0, .slice none 0 0] : Array Value).size)).toArray := ⟨_, rfl⟩
      rw [← hG]
      have hbG : G.heap[ra]? = some (.cells #[.slice none 0 0, .slice none 0 0] 24 (0, 0)) := by rw [hG]; exact setRow_heap V1 ra _ _ 24 (0, 0) hra1
      have hkG : Gr W G := by
        have k1 : Keeps V1 G (fun z => z = ra) := by rw [hG]; exact ⟨rfl, rfl, rfl, by simp, fun kk hk hn => setRow_other V1 ra kk _ hn⟩
        exact HG1.out.trans k1 (fun j hj e => by have := HRl.out; omega)
      have HKG := hidM hkG
      have hld : (loadVar 24 ⟨ra, 0, none⟩).run Try.prog G = .ok (.agg #[.slice none 0 0, .slice none 0 0]) G := by
        refine run_loadVar_mid G ra 0 24 [.slice none 0 0, .slice none 0 0] _ (fun j v hj => ?_) Try.underlying24 rfl (by kernel_rfl)
        rw [Nat.zero_add]
        simp only [World.cell?, hbG]
        simpa using hj
      clear hG hbG hkG
      go_wp2_with fail
      refine bodyPost_ret (v := .tuple #[.agg #[.slice none 0 0, .slice none 0 0], .int .i64 1, .int .i64 0]) ?_ rfl ⟨by rw [HE.out], HKG.out⟩
      exact results_cell3 (t := 2) (a := 3) (b := 4) (ty := 24) rfl rfl hld
end Go.Proofs.Ytemleibpmaclmaa.Kit
