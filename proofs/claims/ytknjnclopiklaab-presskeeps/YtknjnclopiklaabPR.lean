import Derived.Test.YtknjnclopiklaabPD
import Derived.Laws.EntriesVeiled
namespace Go.Proofs.Ytknjnclopiklaab.Kit
open Go.RowKit Go.Shelf Go.Deep
set_option linter.unusedVariables false
attribute [local go_sem] run_store_func

/-! ### runs -/
theorem BytesAt.at {W : World} {ao : Option Addr} {bs : List UInt8} (h : BytesAt W ao bs) (hne : bs ≠ []) : ∃ b o, ao = some ⟨b, o, none⟩ ∧ ∀ i, i < bs.length → W.cell? ⟨b, o + i, none⟩ = some (.int .u8 ((bs.getD i 0).toNat : Int)) := by
  obtain ⟨b, o, e, hc⟩ := h hne
  refine ⟨b, o, e, fun i hi => ?_⟩
  rw [hc i hi, List.getD_eq_getElem?_getD, List.getElem?_eq_getElem hi]
  rfl
theorem ne_nil {α : Type} {l : List α} {i : Nat} (h : i < l.length) : l ≠ [] := fun e => by rw [e] at h; simp at h
theorem u8_beq {x y : UInt8} : (((x.toNat : Int) == (y.toNat : Int)) = true) ↔ x = y := by
  constructor
  · intro h
    have : (x.toNat : Int) = (y.toNat : Int) := by simpa using h
    exact UInt8.toNat_inj.1 (by omega)
  · rintro rfl; simp
theorem u8_bne {x y : UInt8} : (((x.toNat : Int) == (y.toNat : Int)) = false) ↔ x ≠ y := by
  rw [← Bool.not_eq_true, u8_beq]

set_option maxRecDepth 100000 in
set_option maxHeartbeats 2000000 in
theorem runAt_any {ao : Option Addr} {ca i : Nat} {bs : List UInt8} {w : World} (h : BytesAt w ao bs) (hi : i < bs.length) (hl : bs.length ≤ 140737488355328) :
    ∀ W, Gr w W → Calls Try.prog 23 #[.slice ao bs.length ca, .int .i64 (i : Int)] W fun e w' => e = .returned (.int .i64 (runI bs i : Int)) ∧ Gr W w' := by
  intro W g
  obtain ⟨b, o, rfl, hc⟩ := (h.gr g).at (ne_nil hi)
  have HC := hidM hc
  obtain ⟨L, hL⟩ : ∃ L, L = bs.length := ⟨_, rfl⟩
  rw [← hL] at hi hl ⊢
  have HL := hidM hL
  clear hc h g hL
  go_enter Try.func23, Try.ntmps23
  go_wp2_with fail
  go_loopw [5] (fun p wr => ∃ n : Nat, 1 ≤ n ∧ n ≤ 130 ∧ i + n ≤ L ∧ p = .int .i64 (n : Int) ∧ Hid (RunTo bs i n ∧ Gr W wr)) (fun p _ => 200 - (intOf p).toNat)
  case atStart => exact ⟨1, by omega, by omega, by omega, rfl, RunTo.one (by rw [← HL.out]; exact hi), Keeps.refl _ _⟩
  case round =>
    obtain ⟨n, hn1, hn2, hn3, rfl, HR⟩ := hrel
    have fin : ∀ V, Gr W V → Hid (n = 130 ∨ i + n = L ∨ bs.getD (i + n) 0 ≠ bs.getD i 0) → Hid (runN bs i = n ∧ Gr W V) := fun V gV h => ⟨HR.out.1.done hn2 (by have := h.out; rw [HL.out] at this; exact this), gV⟩
    have HF := hidM fin
    clear fin
    by_cases c1 : n < 130
    rotate_left
    · have c1I : decide ((n : Int) < 130) = false := by simp; omega
      have HE := hidM (HF.out wr HR.out.2 (.inl (by omega)))
      clear HF
      go_wp2_with fail
      go_quiet (fail)
      by_cases c9 : n < 3
      · have c9I : (n : Int) < 3 := by omega
        have HZ : Hid (runI bs i = 0) := by show _ = _; unfold runI; rw [HE.out.1, if_pos c9]
        go_wp2_with fail
        go_ret
        exact ⟨by rw [HZ.out]; rfl, HE.out.2.drewN _⟩
      · have c9I : ¬ (n : Int) < 3 := by omega
        have HZ : Hid (runI bs i = n) := by show _ = _; unfold runI; rw [HE.out.1, if_neg c9]
        go_wp2_with fail
        go_ret
        exact ⟨by rw [HZ.out]; rfl, HE.out.2.drewN _⟩
    have c1I : (n : Int) < 130 := by omega
    by_cases c2 : i + n < L
    rotate_left
    · have c2I : decide ((i : Int) + (n : Int) < (L : Int)) = false := by simp; omega
      have HE := hidM (HF.out wr HR.out.2 (.inr (.inl (by omega))))
      clear HF
      go_wp2_with fail
      go_quiet (fail)
      by_cases c9 : n < 3
      · have c9I : (n : Int) < 3 := by omega
        have HZ : Hid (runI bs i = 0) := by show _ = _; unfold runI; rw [HE.out.1, if_pos c9]
        go_wp2_with fail
        go_ret
        exact ⟨by rw [HZ.out]; rfl, HE.out.2.drewN _⟩
      · have c9I : ¬ (n : Int) < 3 := by omega
        have HZ : Hid (runI bs i = n) := by show _ = _; unfold runI; rw [HE.out.1, if_neg c9]
        go_wp2_with fail
        go_ret
        exact ⟨by rw [HZ.out]; rfl, HE.out.2.drewN _⟩
    have c2I : (i : Int) + (n : Int) < (L : Int) := by omega
    have t1 := HR.out.2.cell' (HC.out (i + n) (by rw [← HL.out]; exact c2)) id
    have t2 := HR.out.2.cell' (HC.out i (by rw [← HL.out]; exact hi)) id
    by_cases c3 : bs.getD (i + n) 0 = bs.getD i 0
    rotate_left
    · have e1 := u8_bne.2 c3
      have HE := hidM (HF.out wr HR.out.2 (.inr (.inr c3)))
      obtain ⟨x, hx⟩ : ∃ x : Int, x = ((bs.getD (i + n) 0).toNat : Int) := ⟨_, rfl⟩
      obtain ⟨y, hy⟩ : ∃ y : Int, y = ((bs.getD i 0).toNat : Int) := ⟨_, rfl⟩
      rw [← hx, ← hy] at e1
      rw [← hx] at t1
      rw [← hy] at t2
      clear HF hx hy c3
      go_wp2_with fail
      go_quiet (fail)
      by_cases c9 : n < 3
      · have c9I : (n : Int) < 3 := by omega
        have HZ : Hid (runI bs i = 0) := by show _ = _; unfold runI; rw [HE.out.1, if_pos c9]
        go_wp2_with fail
        go_ret
        exact ⟨by rw [HZ.out]; rfl, HE.out.2.drewN _⟩
      · have c9I : ¬ (n : Int) < 3 := by omega
        have HZ : Hid (runI bs i = n) := by show _ = _; unfold runI; rw [HE.out.1, if_neg c9]
        go_wp2_with fail
        go_ret
        exact ⟨by rw [HZ.out]; rfl, HE.out.2.drewN _⟩
    have HN := hidM (HR.out.1.next (by rw [← HL.out]; exact c2) c3)
    rw [c3] at t1
    obtain ⟨y, hy⟩ : ∃ y : Int, y = ((bs.getD i 0).toNat : Int) := ⟨_, rfl⟩
    rw [← hy] at t1 t2
    clear HF hy c3
    go_wp2_with fail
    go_quiet (fail)
    go_wp2_with fail
    go_roundw
    case rel => exact ⟨n + 1, by omega, by omega, by omega, by simp, HN.out, HR.out.2.drewN _⟩
    case measure => simp [intOf]; omega
def boxP (B : Nat) : Value := .pointer (some ⟨B, 0, none⟩)
set_option maxRecDepth 100000 in
set_option maxHeartbeats 2000000 in
theorem long28 {ao : Option Addr} {ca B : Nat} {bs : List UInt8} {w : World} (h : BytesAt w ao bs) (hB : w.cell? ⟨B, 0, none⟩ = some (.slice ao bs.length ca)) (hl : bs.length ≤ 140737488355328) :
    ∀ W i, Gr w W → i < bs.length → Calls Try.prog 22 #[.int .i64 (i : Int), .pointer (some ⟨B, 0, none⟩)] W fun e w' => e = .returned (.int .i64 (runI bs i : Int)) ∧ Gr W w' := by
  intro W i g hi
  have hb := g.cell' hB id
  have H := hidM (runAt_any (ca := ca) h hi hl W g)
  clear h hB hl g hi
  go_enter Try.func22, Try.ntmps22
  go_wp2_with (go_at_call 23; refine Hid.out ?_)
  unfold Hid
  refine Calls.mono H.out ?_
  rintro e V ⟨rfl, hg⟩
  go_wp2_with fail
  go_ret
  exact ⟨rfl, hg⟩

end Go.Proofs.Ytknjnclopiklaab.Kit
