import Derived.Test.YtemleibpmaclmaaTF
import Derived.Deep.RegionHeld3
namespace Go.Proofs.Ytemleibpmaclmaa.Kit
open Go.RowKit Go.Shelf Go.Deep
set_option linter.unusedVariables false

set_option maxRecDepth 100000 in
set_option maxHeartbeats 4000000 in
/-- alike: two lists whose first n are the same -/
theorem alike_some (b1 o1 c1 b2 o2 c2 n N1 N2 : Nat) (l : List Msg) (w : World) (hn : l.length = n) (h1 : n ≤ N1) (h2 : n ≤ N2) (hN1 : N1 ≤ 140737488355328) (hN2 : N2 ≤ 140737488355328)
    (a1 : ∀ k (h : k < l.length), MsgAt w b1 (o1 + 2 * k) l[k]) (a2 : ∀ k (h : k < l.length), MsgAt w b2 (o2 + 2 * k) l[k]) :
    Calls Try.prog 31 #[.slice (some ⟨b1, o1, none⟩) N1 c1, .slice (some ⟨b2, o2, none⟩) N2 c2, .int .i64 (n : Int)] w fun e w' => e = .returned (.bool true) ∧ Gr w w' := by
  have HL := hidM hn
  have HA := hidM a1
  have HB := hidM a2
  have d1 : ¬ (N1 : Int) < (n : Int) := by omega
  have d2 : ¬ (N2 : Int) < (n : Int) := by omega
  clear a1 a2 hn
  go_enter Try.func31, Try.ntmps31
  go_wp2_with fail
  go_loopw [7] (fun q wr => ∃ k : Nat, k ≤ n ∧ q = .int .i64 (k : Int) ∧ Hid (Gr w wr)) (fun q _ => n - (intOf q).toNat)
  case atStart => exact ⟨0, by omega, rfl, Keeps.refl _ _⟩
  case round =>
    obtain ⟨k, hk, rfl, HG⟩ := hrel
    by_cases c : k < n
    · have cI : (k : Int) < (n : Int) := by omega
      have hk0 : (0 : Int) ≤ (k : Int) := by omega
      have cN1 : (k : Int) < (N1 : Int) := by omega
      have cN2 : (k : Int) < (N2 : Int) := by omega
      have hkl : k < l.length := by rw [HL.out]; exact c
      obtain ⟨m1, k1, e1, k2, u1, u2, u3, u4, u5, u6, u7, u8⟩ := (HA.out k hkl).h
      obtain ⟨m2, k3, e2, k4, v1, v2, v3, v4, v5, v6, v7, v8⟩ := (HB.out k hkl).h
      have HSm : Hid (∀ V, Gr w V → Calls Try.prog 10 #[.slice m1 l[k].1.length k1, .slice m2 l[k].1.length k3] V fun e w' => e = .returned (.bool true) ∧ Gr V w') := fun V g => same_true (u5.gr g) (v5.gr g) (by omega)
      have HSb : Hid (∀ V, Gr w V → Calls Try.prog 10 #[.slice e1 l[k].2.length k2, .slice e2 l[k].2.length k4] V fun e w' => e = .returned (.bool true) ∧ Gr V w') := fun V g => same_true (u8.gr g) (v8.gr g) (by omega)
      clear u3 u4 u5 u6 u7 u8 v3 v4 v5 v6 v7 v8
      rw [Nat.mul_comm 2 k] at u1 u2 v1 v2
      generalize l[k].1.length = x at *
      generalize l[k].2.length = y at *
      have HIN : Hid (Hid (Gr w wr.drew) ∧ wr.drew.cell? ⟨b1, o1 + k * 2, none⟩ = some (.slice m1 x k1) ∧ wr.drew.cell? ⟨b1, o1 + k * 2 + 1, none⟩ = some (.slice e1 y k2) ∧ wr.drew.cell? ⟨b2, o2 + k * 2, none⟩ = some (.slice m2 x k3) ∧ wr.drew.cell? ⟨b2, o2 + k * 2 + 1, none⟩ = some (.slice e2 y k4)) := ⟨HG.out.trans ((Keeps.refl _ _).drew) (fun _ _ h => h), HG.out.cell' u1 id, HG.out.cell' u2 id, HG.out.cell' v1 id, HG.out.cell' v2 id⟩
      clear u1 u2 v1 v2 hkl
      go_wp2_with fail
      go_region_held3 (fun V => Hid (Gr w V) ∧ V.cell? ⟨b1, o1 + k * 2, none⟩ = some (.slice m1 x k1) ∧ V.cell? ⟨b1, o1 + k * 2 + 1, none⟩ = some (.slice e1 y k2) ∧ V.cell? ⟨b2, o2 + k * 2, none⟩ = some (.slice m2 x k3) ∧ V.cell? ⟨b2, o2 + k * 2 + 1, none⟩ = some (.slice e2 y k4)) (first | with_reducible exact HIN.out | with_reducible assumption | with_reducible exact HK.out) (first | (go_at_call 10; have hS0 := HIN.out; (with_reducible refine (HSm.out _ hS0.1.out).mono ?_); rintro e W1 ⟨rfl, g1⟩; have HK : Hid (Hid (Gr w W1) ∧ W1.cell? ⟨b1, o1 + k * 2, none⟩ = some (.slice m1 x k1) ∧ W1.cell? ⟨b1, o1 + k * 2 + 1, none⟩ = some (.slice e1 y k2) ∧ W1.cell? ⟨b2, o2 + k * 2, none⟩ = some (.slice m2 x k3) ∧ W1.cell? ⟨b2, o2 + k * 2 + 1, none⟩ = some (.slice e2 y k4)) := ⟨hS0.1.out.trans g1 (fun _ _ h => h), g1.cell' hS0.2.1 id, g1.cell' hS0.2.2.1 id, g1.cell' hS0.2.2.2.1 id, g1.cell' hS0.2.2.2.2 id⟩; clear g1 hS0))
      have HKp := hidM HK.out
      clear HIN HK HSm
      go_wp2_with fail
      have HIN : Hid (Hid (Gr w W1.drew) ∧ W1.drew.cell? ⟨b1, o1 + k * 2, none⟩ = some (.slice m1 x k1) ∧ W1.drew.cell? ⟨b1, o1 + k * 2 + 1, none⟩ = some (.slice e1 y k2) ∧ W1.drew.cell? ⟨b2, o2 + k * 2, none⟩ = some (.slice m2 x k3) ∧ W1.drew.cell? ⟨b2, o2 + k * 2 + 1, none⟩ = some (.slice e2 y k4)) := ⟨HKp.out.1.out.trans ((Keeps.refl _ _).drew) (fun _ _ h => h), HKp.out.2⟩
      clear HKp
      go_region_held3 (fun V => Hid (Gr w V) ∧ V.cell? ⟨b1, o1 + k * 2, none⟩ = some (.slice m1 x k1) ∧ V.cell? ⟨b1, o1 + k * 2 + 1, none⟩ = some (.slice e1 y k2) ∧ V.cell? ⟨b2, o2 + k * 2, none⟩ = some (.slice m2 x k3) ∧ V.cell? ⟨b2, o2 + k * 2 + 1, none⟩ = some (.slice e2 y k4)) (first | with_reducible exact HIN.out | with_reducible assumption | with_reducible exact HK.out) (first | (go_at_call 10; have hS0 := HIN.out; (with_reducible refine (HSb.out _ hS0.1.out).mono ?_); rintro e W2 ⟨rfl, g1⟩; have HK : Hid (Hid (Gr w W2) ∧ W2.cell? ⟨b1, o1 + k * 2, none⟩ = some (.slice m1 x k1) ∧ W2.cell? ⟨b1, o1 + k * 2 + 1, none⟩ = some (.slice e1 y k2) ∧ W2.cell? ⟨b2, o2 + k * 2, none⟩ = some (.slice m2 x k3) ∧ W2.cell? ⟨b2, o2 + k * 2 + 1, none⟩ = some (.slice e2 y k4)) := ⟨hS0.1.out.trans g1 (fun _ _ h => h), g1.cell' hS0.2.1 id, g1.cell' hS0.2.2.1 id, g1.cell' hS0.2.2.2.1 id, g1.cell' hS0.2.2.2.2 id⟩; clear g1 hS0))
      have HGn := hidM HK.out.1.out
      clear HIN HK HSb
      go_wp2_with fail
      go_roundw
      case rel => exact ⟨k + 1, by omega, by simp, HGn.out⟩
      case measure => simp [intOf]; omega
    · have cI : ¬ (k : Int) < (n : Int) := by omega
      go_wp2_with fail
      go_ret
      exact ⟨rfl, HG.out⟩
set_option maxRecDepth 100000 in
set_option maxHeartbeats 4000000 in
theorem alike_zero (ao bo : Option Addr) (c1 c2 N1 N2 : Nat) (w : World) (hN1 : N1 ≤ 140737488355328) (hN2 : N2 ≤ 140737488355328) :
    Calls Try.prog 31 #[.slice ao N1 c1, .slice bo N2 c2, .int .i64 0] w fun e w' => e = .returned (.bool true) ∧ Gr w w' := by
  have d1 : ¬ (N1 : Int) < 0 := by omega
  have d2 : ¬ (N2 : Int) < 0 := by omega
  go_enter Try.func31, Try.ntmps31
  go_wp2_with fail
  go_loopw [7] (fun q wr => q = .int .i64 0 ∧ wr = w) (fun _ _ => 0)
  case atStart => exact ⟨rfl, rfl⟩
  case round =>
    obtain ⟨rfl, rfl⟩ := hrel
    go_wp2_with fail
    go_ret
    exact ⟨rfl, Keeps.refl _ _⟩
/-- alike -/
theorem alike_true {ao bo : Option Addr} {c1 c2 n : Nat} {a b : List Msg} {w : World} (h1 : n ≤ a.length) (h2 : n ≤ b.length) (hN1 : a.length ≤ 140737488355328) (hN2 : b.length ≤ 140737488355328) (e : a.take n = b.take n) (ha : MsgsAt w ao a) (hb : MsgsAt w bo b) :
    Calls Try.prog 31 #[.slice ao a.length c1, .slice bo b.length c2, .int .i64 (n : Int)] w fun e w' => e = .returned (.bool true) ∧ Gr w w' := by
  by_cases h0 : n = 0
  · subst h0; exact alike_zero ao bo c1 c2 _ _ w hN1 hN2
  · obtain ⟨b1, o1, rfl, k1⟩ := ha (List.length_pos_iff.1 (by omega))
    obtain ⟨b2, o2, rfl, k2⟩ := hb (List.length_pos_iff.1 (by omega))
    have hlen : (a.take n).length = n := by rw [List.length_take]; omega
    refine alike_some b1 o1 c1 b2 o2 c2 n a.length b.length (a.take n) w hlen h1 h2 hN1 hN2 (fun k hk => ?_) (fun k hk => ?_)
    · have := k1 k (by omega)
      rw [List.getElem_take]
      exact this
    · have := k2 k (by omega)
      have e2 : (a.take n)[k] = (b.take n)[k]'(by rw [← e]; exact hk) := by congr 1
      rw [e2, List.getElem_take]
      exact this
end Go.Proofs.Ytemleibpmaclmaa.Kit
