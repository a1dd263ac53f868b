import Derived.Test.YtemleibpmaclmaaSD
namespace Go.Proofs.Ytemleibpmaclmaa.Kit
open Go.RowKit Go.Shelf Go.Deep
set_option linter.unusedVariables false
attribute [local go_sem] run_store_func

theorem Rd.head {w W : World} {p T : Nat} {tl : List Value} {s : Sc} {R : Nat → Row} {wo : Option Addr} {wc : Nat} (h : Rd w W p T tl s R wo wc) (h1 : 0 < s.hd.length) :
    ∃ g hc, R 0 = (some ⟨g, 0, none⟩, s.hd.length, hc) ∧ s.hd.length ≤ hc ∧ hc ≤ 9223372036854775807 ∧ W.cell? ⟨p, 4, none⟩ = some (.slice (some ⟨g, 0, none⟩) s.hd.length hc) ∧ BytesAt W (some ⟨g, 0, none⟩) s.hd := by
  have hr := h.rows 0 (by omega)
  obtain ⟨ho, n, hc, hR0⟩ : ∃ ho n hc, R 0 = (ho, n, hc) := ⟨_, _, _, rfl⟩
  have c4 : W.cell? ⟨p, 4, none⟩ = some (rv (R 0)) := h.cells rfl
  rw [hR0] at hr c4
  have hn : n = s.hd.length := by have := hr.1; rw [bv_len] at this; have : s.hd.length = n * 1 := this; omega
  subst hn
  have hm : maxLen = 9223372036854775807 := by kernel_rfl
  rcases hr.2 with ⟨e, h0⟩ | ⟨g, cap, cur, e, q1, q2, q3, q4, -⟩
  · have e' : s.hd.length = 0 := h0
    omega
  · cases e
    exact ⟨g, hc, hR0, q3, by have : hc ≤ maxLen := q4; omega, c4, bytes_of_own hr⟩
set_option maxRecDepth 100000 in
set_option maxHeartbeats 2000000 in
theorem isEnd_any {w W : World} {p T : Nat} {tl : List Value} {s : Sc} {R : Nat → Row} {wo : Option Addr} {wc : Nat} (h : Rd w W p T tl s R wo wc) (h4 : 4 ≤ s.hd.length) (hl : s.hd.length ≤ 1000) :
    Calls Try.prog 67 #[.pointer (some ⟨p, 0, none⟩)] W fun e w' => e = .returned (.bool (isEndF s)) ∧ W = w' := by
  obtain ⟨g, hc, hR0, hcap, -, c4, hb0⟩ := h.head (by omega)
  have hb := hb0.take 4
  have hlen : (s.hd.take 4).length = 4 := by rw [List.length_take]; omega
  have hcv : (convert 22 9 (.slice (some ⟨g, 0, none⟩) 4 hc)).run Try.prog W = .ok (.string ⟨(s.hd.take 4).toArray⟩) W := by
    have := bytes_string (vc := hc) hb
    rw [hlen] at this
    exact this
  have hc4 : (4 : Int) ≤ (hc : Int) := by omega
  clear hb hR0 h hb0
  go_enter Try.func67, Try.ntmps67
  go_wp2_with fail
  go_ret
  exact ⟨rfl, rfl⟩
set_option maxRecDepth 100000 in
set_option maxHeartbeats 8000000 in
theorem readHead_any {w W : World} {p : Nat} {x y : Value} {s : Sc} {R : Nat → Row} {wo : Option Addr} {wc : Nat} (h : Rd w W p 76 [x, y] s R wo wc) (h16 : 16 ≤ s.hd.length) (hl : s.hd.length ≤ 1000) (hlm : s.lm ≤ 100000000) (hlb : s.lb ≤ 100000000) :
    Calls Try.prog 61 #[.pointer (some ⟨p, 0, none⟩)] W fun e w' => e = .returned (.int .i64 (readHeadF s).1) ∧ RdDone w W w' p 76 [x, y] s.ms.length R wo wc (readHeadF s).2 := by
  obtain ⟨g, hc, hR0, hcap, hcm, c4, hb0⟩ := h.head (by omega)
  obtain ⟨n, hn⟩ : ∃ n, n = s.hd.length := ⟨_, rfl⟩
  obtain ⟨m, hm⟩ : ∃ m, m = num4 s.hd 4 := ⟨_, rfl⟩
  obtain ⟨b, hb⟩ : ∃ b, b = num4 s.hd 8 := ⟨_, rfl⟩
  obtain ⟨z, hz⟩ : ∃ z, z = num4 s.hd 12 := ⟨_, rfl⟩
  obtain ⟨q, hq⟩ : ∃ q, q = (sumU sum0 (s.hd.take 12)).toNat := ⟨_, rfl⟩
  have hmb : m < 4294967296 := by rw [hm]; exact num4_lt _ _
  have hbb : b < 4294967296 := by rw [hb]; exact num4_lt _ _
  have hwm : IntKind.i64.wrap (m : Int) = (m : Int) := by rw [IntKind.wrap_i64]; omega
  have hwb : IntKind.i64.wrap (b : Int) = (b : Int) := by rw [IntKind.wrap_i64]; omega
  have HN : Hid (∀ V a, Gr W V → a + 4 ≤ n → Calls Try.prog 66 #[.pointer (some ⟨p, 0, none⟩), .int .i64 (a : Int)] V fun e w' => e = .returned (.int .u32 (num4 s.hd a : Int)) ∧ Gr V w') := fun V a k ha => number_any rfl (by omega) hcap hcm (by omega) (hb0.gr k) (k.cell' c4 id)
  have HN4 : Hid (∀ V, Gr W V → Calls Try.prog 66 #[.pointer (some ⟨p, 0, none⟩), .int .i64 4] V fun e w' => e = .returned (.int .u32 (m : Int)) ∧ Gr V w') := fun V k => by rw [hm]; exact HN.out V 4 k (by omega)
  have HN8 : Hid (∀ V, Gr W V → Calls Try.prog 66 #[.pointer (some ⟨p, 0, none⟩), .int .i64 8] V fun e w' => e = .returned (.int .u32 (b : Int)) ∧ Gr V w') := fun V k => by rw [hb]; exact HN.out V 8 k (by omega)
  have HN12 : Hid (∀ V, Gr W V → Calls Try.prog 66 #[.pointer (some ⟨p, 0, none⟩), .int .i64 12] V fun e w' => e = .returned (.int .u32 (z : Int)) ∧ Gr V w') := fun V k => by rw [hz]; exact HN.out V 12 k (by omega)
  have HSm : Hid (∀ V, Gr W V → Calls Try.prog 46 #[.int .u32 2166136261, .slice (some ⟨g, 0, none⟩) 12 hc] V fun e w' => e = .returned (.int .u32 (q : Int)) ∧ V = w') := fun V k => by
    have hlen : (s.hd.take 12).length = 12 := by rw [List.length_take]; omega
    have := sum_any (ca := hc) sum0 ((hb0.gr k).take 12) (by omega)
    rw [hlen, ← hq] at this
    exact this
  have HEn : Hid (∀ V, Gr W V → Calls Try.prog 67 #[.pointer (some ⟨p, 0, none⟩)] V fun e w' => e = .returned (.bool (isEndF s)) ∧ V = w') := fun V k => isEnd_any (h.grow k) (by omega) hl
  have HC : Hid (∀ V, Gr W V → V.cell? ⟨p, 4, none⟩ = some (.slice (some ⟨g, 0, none⟩) n hc) ∧ V.cell? ⟨p, 0, none⟩ = some (.int .i64 (s.lm : Int)) ∧ V.cell? ⟨p, 1, none⟩ = some (.int .i64 (s.lb : Int))) := fun V k => by
    have a0 : W.cell? ⟨p, 0, none⟩ = some (.int .i64 (s.lm : Int)) := h.cells rfl
    have a1 : W.cell? ⟨p, 1, none⟩ = some (.int .i64 (s.lb : Int)) := h.cells rfl
    rw [hn]
    exact ⟨k.cell' c4 id, k.cell' a0 id, k.cell' a1 id⟩
  have HD : Hid (readHeadF s = (if z ≠ q then (72, s) else if s.lm < m ∨ s.lb < b then (71, s) else if isEndF s = true ∧ (m ≠ 0 ∨ b ≠ 0) then (8, s) else (0, { s with me := m, bo := b }))) := by rw [hm, hb, hz, hq]; rfl
  have HR := hidM h
  have hc12 : (12 : Int) ≤ (hc : Int) := by omega
  clear h hR0 c4 hb0 hm hb hz hq HN hcm hcap hn hl h16
  go_enter Try.func61, Try.ntmps61
  go_wp2_with (go_at_call 66; refine Hid.out ?_)
  unfold Hid
  refine Calls.mono (HN4.out _ (Keeps.refl _ _)) ?_
  rintro e W1 ⟨rfl, g1⟩
  have HG1 := hidM g1
  clear g1
  go_wp2_with (go_at_call 66; refine Hid.out ?_)
  unfold Hid
  refine Calls.mono (HN8.out _ HG1.out) ?_
  rintro e W2 ⟨rfl, g2⟩
  have HG2 := hidM (HG1.out.trans g2 (fun _ _ h => h))
  clear g2 HN4 HN8
  go_wp2_with fail
  have gD := hidM (HG2.out.trans ((Keeps.refl W2 _).drew) (fun _ _ h => h))
  have HIN : Hid (Hid (Gr W W2.drew) ∧ W2.drew.cell? ⟨p, 4, none⟩ = some (.slice (some ⟨g, 0, none⟩) n hc)) := ⟨gD.out, (HC.out _ gD.out).1⟩
  have HGF : Hid (∀ V, (Hid (Gr W V) ∧ V.cell? ⟨p, 4, none⟩ = some (.slice (some ⟨g, 0, none⟩) n hc)) → Gr W V) := fun V h => h.1.out
  have HKP : Hid (∀ V V', (Hid (Gr W V) ∧ V.cell? ⟨p, 4, none⟩ = some (.slice (some ⟨g, 0, none⟩) n hc)) → Gr V V' → (Hid (Gr W V') ∧ V'.cell? ⟨p, 4, none⟩ = some (.slice (some ⟨g, 0, none⟩) n hc))) := fun V V' h k => ⟨h.1.out.trans k (fun _ _ h => h), k.cell' h.2 id⟩
  go_region_held3 (fun V => Hid (Gr W V) ∧ V.cell? ⟨p, 4, none⟩ = some (.slice (some ⟨g, 0, none⟩) n hc)) (first | with_reducible exact HIN.out | with_reducible assumption | with_reducible exact HKP.out _ _ (by assumption) gh.out) (first | (go_at_call 66; (with_reducible refine (HN12.out _ (HGF.out _ (by assumption))).mono ?_); rintro e W3 ⟨rfl, gh⟩; have gh := hidM gh) | (go_at_call 46; (with_reducible refine (HSm.out _ (HGF.out _ (by assumption))).mono ?_); rintro e w' ⟨rfl, rfl⟩))
  rename_i hHeld3
  have HG3 := hidM hHeld3.1.out
  obtain ⟨-, a0, a1⟩ := HC.out W3 HG3.out
  have HDn := hidM (RdDone.refl HR.out HG3.out)
  clear hHeld3 gh HIN HGF HKP gD HG1 HG2 HN12 HSm HC
  by_cases c1 : z = q
  rotate_left
  · have hzq : ((z : Int) != (q : Int)) = true := by simp; omega
    have HE : Hid (readHeadF s = (72, s)) := by show _ = _; rw [HD.out, if_pos c1]
    go_wp2_with fail
    go_ret
    exact ⟨by rw [HE.out]; rfl, by rw [HE.out]; exact HDn.out⟩
  have hzq : ((z : Int) != (q : Int)) = false := by simp; omega
  by_cases c2 : s.lm < m
  · have c2I : (s.lm : Int) < (m : Int) := by omega
    have HE : Hid (readHeadF s = (71, s)) := by show _ = _; rw [HD.out, if_neg (by simpa using c1), if_pos (.inl c2)]
    go_wp2_with fail
    go_ret
    exact ⟨by rw [HE.out]; rfl, by rw [HE.out]; exact HDn.out⟩
  have c2I : ¬ (s.lm : Int) < (m : Int) := by omega
  by_cases c3 : s.lb < b
  · have c3I : (s.lb : Int) < (b : Int) := by omega
    have HE : Hid (readHeadF s = (71, s)) := by show _ = _; rw [HD.out, if_neg (by simpa using c1), if_pos (.inr c3)]
    go_wp2_with fail
    go_ret
    exact ⟨by rw [HE.out]; rfl, by rw [HE.out]; exact HDn.out⟩
  have c3I : ¬ (s.lb : Int) < (b : Int) := by omega
  have HD2 : Hid (readHeadF s = (if isEndF s = true ∧ (m ≠ 0 ∨ b ≠ 0) then (8, s) else (0, { s with me := m, bo := b }))) := by
    show _ = _
    rw [HD.out, if_neg (by simpa using c1), if_neg (by omega)]
  have hR3 := HR.out.grow HG3.out
  have hR4 := hR3.set (j := 5) (v := .int .i64 (m : Int)) (s' := { s with me := m }) (tl' := [x, y]) rfl rfl (fun _ => rfl)
  have hR5 := hR4.set (j := 6) (v := .int .i64 (b : Int)) (s' := { s with me := m, bo := b }) (tl' := [x, y]) rfl rfl (fun _ => rfl)
  have t5 : W3.cell? ⟨p, 5, none⟩ = some (.int .i64 (s.me : Int)) := hR3.cells rfl
  have f5 : W3.frozen? ⟨p, 5, none⟩ = false := frz hR3.box 5
  have t6 : (W3.setCell ⟨p, 5, none⟩ (.int .i64 (m : Int))).cell? ⟨p, 6, none⟩ = some (.int .i64 (s.bo : Int)) := hR4.cells rfl
  have f6 : (W3.setCell ⟨p, 5, none⟩ (.int .i64 (m : Int))).frozen? ⟨p, 6, none⟩ = false := frz hR4.box 6
  have HFin : Hid (RdDone w W ((W3.setCell ⟨p, 5, none⟩ (.int .i64 (m : Int))).setCell ⟨p, 6, none⟩ (.int .i64 (b : Int))) p 76 [x, y] s.ms.length R wo wc { s with me := m, bo := b }) :=
    ⟨_, _, _, hR5, Keeps.setCell (S := RIs p s.ms.length R wo wc) (p := ⟨p, 6, none⟩) (Keeps.setCell (S := RIs p s.ms.length R wo wc) (p := ⟨p, 5, none⟩) (HG3.out.mono fun _ _ f => f.elim) (fun _ => .inl rfl) _) (fun _ => .inl rfl) _, fun g e => .inl e⟩
  clear hR3 hR4 hR5 HD
  have HEc := hidM (HEn.out W3 HG3.out)
  clear HEn
  cases hE : isEndF s with
  | false =>
    rw [hE] at HEc
    have HE : Hid (readHeadF s = (0, { s with me := m, bo := b })) := by show _ = _; rw [HD2.out, if_neg (by rw [hE]; simp)]
    clear HD2 hE
    go_wp2_with (go_at_call 67; refine Hid.out ?_)
    unfold Hid
    refine Calls.mono HEc.out ?_
    rintro e W4 ⟨rfl, rfl⟩
    go_wp2_with fail
    go_ret
    exact ⟨by rw [HE.out]; rfl, by rw [HE.out]; exact HFin.out⟩
  | true =>
    rw [hE] at HEc
    by_cases c4 : m = 0
    rotate_left
    · have HE : Hid (readHeadF s = (8, s)) := by show _ = _; rw [HD2.out, if_pos ⟨hE, .inl c4⟩]
      have c4I : ((m : Int) != 0) = true := by simp; omega
      clear HD2 hE
      go_wp2_with (go_at_call 67; refine Hid.out ?_)
      unfold Hid
      refine Calls.mono HEc.out ?_
      rintro e W4 ⟨rfl, rfl⟩
      go_wp2_with fail
      go_ret
      exact ⟨by rw [HE.out]; rfl, by rw [HE.out]; exact HDn.out⟩
    by_cases c5 : b = 0
    rotate_left
    · have HE : Hid (readHeadF s = (8, s)) := by show _ = _; rw [HD2.out, if_pos ⟨hE, .inr c5⟩]
      have c4I : ((m : Int) != 0) = false := by simp; omega
      have c5I : ((b : Int) != 0) = true := by simp; omega
      clear HD2 hE
      go_wp2_with (go_at_call 67; refine Hid.out ?_)
      unfold Hid
      refine Calls.mono HEc.out ?_
      rintro e W4 ⟨rfl, rfl⟩
      go_wp2_with fail
      go_ret
      exact ⟨by rw [HE.out]; rfl, by rw [HE.out]; exact HDn.out⟩
    have HE : Hid (readHeadF s = (0, { s with me := m, bo := b })) := by show _ = _; rw [HD2.out, if_neg (fun h => by omega)]
    have c4I : ((m : Int) != 0) = false := by simp; omega
    have c5I : ((b : Int) != 0) = false := by simp; omega
    clear HD2 hE c4 c5
    go_wp2_with (go_at_call 67; refine Hid.out ?_)
    unfold Hid
    refine Calls.mono HEc.out ?_
    rintro e W4 ⟨rfl, rfl⟩
    go_wp2_with fail
    go_ret
    exact ⟨by rw [HE.out]; rfl, by rw [HE.out]; exact HFin.out⟩
end Go.Proofs.Ytemleibpmaclmaa.Kit
