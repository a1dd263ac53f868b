import Derived.RangeFuncNested
import Derived.RangeFuncFrom
import Derived.RangeFuncBound
import Derived.RangeFuncCalls
import Derived.RangeFuncLeaves
import Derived.Shelf.Abstract
import Derived.Shelf.RegionOpen
import Derived.OwnWalkIn
import Derived.TacticsInMore
import Derived.LoopNIn
import Derived.LoopIn
import Derived.Test.YteppfammimbmcaaDoorC
import Derived.Test.YteppfammimbmcaaDoorData2
namespace Go.Proofs.YteppfammimbmcaaDoor.Kit
open Go.RowKit Go.Shelf Go.Deep
set_option linter.unusedVariables false

attribute [local go_sem] Oper.semAt_some

/-- what the iterator reads -/
def KpOf (S : Nat → Prop) (W W' : World) : Prop := ∀ b, S b → W'.heap[b]? = W.heap[b]?
def encR (x : Nat × Nat) : Array Value := #[.int .i64 (min x.1 1000000000 : Nat), .int .i64 (min x.2 1000000000 : Nat)]
structure Held (W : World) (b1 b2 b3 : Nat) (ao : Option Addr) (ca : Nat) (kl : List Nat) (first e : Nat) : Prop where
  tab : Tab W
  c1 : W.cell? ⟨b1, 0, none⟩ = some (.slice ao kl.length ca)
  c2 : W.cell? ⟨b2, 0, none⟩ = some (.int .i64 (first : Int))
  c3 : W.cell? ⟨b3, 0, none⟩ = some (.int .i64 (e : Int))
  bytes : BytesAt W ao kl
def HeldS (b1 b2 b3 : Nat) (ao : Option Addr) (b : Nat) : Prop := b = 0 ∨ b = b1 ∨ b = b2 ∨ b = b3 ∨ ao.map (·.block) = some b
theorem Held.kept {W W' : World} {b1 b2 b3 : Nat} {ao : Option Addr} {ca : Nat} {kl : List Nat} {first e : Nat} (h : Held W b1 b2 b3 ao ca kl first e) (k : KpOf (HeldS b1 b2 b3 ao) W W') : Held W' b1 b2 b3 ao ca kl first e := by
  refine ⟨fun j hj => ?_, ?_, ?_, ?_, fun hn => ?_⟩
  · rw [World.cell?_of_block (w := W) (k 0 (.inl rfl))]; exact h.tab j hj
  · rw [World.cell?_of_block (w := W) (k b1 (.inr (.inl rfl)))]; exact h.c1
  · rw [World.cell?_of_block (w := W) (k b2 (.inr (.inr (.inl rfl))))]; exact h.c2
  · rw [World.cell?_of_block (w := W) (k b3 (.inr (.inr (.inr (.inl rfl)))))]; exact h.c3
  · obtain ⟨b, off, rfl, hc⟩ := h.bytes hn
    exact ⟨b, off, rfl, fun j hj => by rw [World.cell?_of_block (w := W) (k b (.inr (.inr (.inr (.inr rfl)))))]; exact hc j hj⟩
theorem Held.drewN {W : World} {b1 b2 b3 : Nat} {ao : Option Addr} {ca : Nat} {kl : List Nat} {first e : Nat} (h : Held W b1 b2 b3 ao ca kl first e) (q : Nat) : Held (W.drewN q) b1 b2 b3 ao ca kl first e := ⟨h.tab, h.c1, h.c2, h.c3, h.bytes⟩
theorem grown_drewN (W : World) (q : Nat) : W.grownBy (W.drewN q) none := ⟨rfl, rfl, rfl, Nat.le_refl _, fun _ _ _ => rfl⟩

theorem find_from (ao : Option Addr) (ca : Nat) (kl : List Nat) (hl : Bytes kl) (hlen : kl.length ≤ 10000000) (first m : Nat) (he : first + m ≤ 8 * kl.length) (A : Nat) (h1 : first ≤ A) (h2 : A ≤ first + m) (on : Bool) (w : World) (hT : Tab w) (hb : BytesAt w ao kl) :
    Calls Tryd.prog 48 #[.slice ao kl.length ca, .int .i64 A, .int .i64 (first + m : Nat), .bool on] w fun x w' => ∃ B : Nat, x = .returned (.int .i64 B) ∧ Hid (B = first + fnd (fun k => bitAt kl (first + k)) on m (A - first)) ∧ ∃ q, w' = w.drewN q := by
  refine (find_any ao ca kl hl (by omega) A (first + m) on h2 he w hT hb).mono ?_
  rintro e w' ⟨rfl, q, rfl⟩
  refine ⟨_, rfl, ?_, q, rfl⟩
  show _ = _
  rw [← fnd_shift, show first + (A - first) = A by omega]

set_option maxRecDepth 100000 in
set_option maxHeartbeats 2000000 in
theorem runs1_in (n : Nat) (hn : 1 ≤ n) (l b1 b2 b3 : Nat) (ao : Option Addr) (ca : Nat) (kl : List Nat) (hl : Bytes kl) (hlen : kl.length ≤ 10000000) (first m : Nat) (he : first + m ≤ 8 * kl.length) (J Jx : List (Nat × Nat) → World → Prop)
    (hA : ∀ pre W q, J pre W → J pre (W.drewN q)) (hAx : ∀ pre W q, Jx pre W → Jx pre (W.drewN q))
    (hY : ∀ pre x W, J pre W → pre.length < (rf (fun k => bitAt kl (first + k)) m).length → YieldAt Fence.wide (n - 1) Tryd.prog l (encR x) W fun e W' =>
      (e = .returned (.bool true) ∧ J (pre ++ [x]) W' ∧ KpOf (HeldS b1 b2 b3 ao) W W') ∨ (e = .returned (.bool false) ∧ Jx (pre ++ [x]) W'))
    (W : World) (hH : Held W b1 b2 b3 ao ca kl first (first + m)) (h0 : J [] W) :
    CallsIn Fence.wide n Tryd.prog 47 #[.func (.yield l) #[] #[], .pointer (some ⟨b1, 0, none⟩), .pointer (some ⟨b2, 0, none⟩), .pointer (some ⟨b3, 0, none⟩)] W fun e W' => (∃ v, e = .returned v) ∧
      ((∃ ys, ys = rf (fun k => bitAt kl (first + k)) m ∧ J ys W') ∨ (∃ pre, pre <+: rf (fun k => bitAt kl (first + k)) m ∧ Jx pre W')) := by
  have HH : Hid (Held W b1 b2 b3 ao ca kl first (first + m)) := hH
  have h1 := hH.c1
  have h2 := hH.c2
  have h3 := hH.c3
  obtain ⟨en, hen⟩ : ∃ en, en = first + m := ⟨_, rfl⟩
  have HE : Hid (first + m = en) := hen.symm
  have hff : ∀ A, first ≤ A → A ≤ en → ∀ on w, Tab w → BytesAt w ao kl → Calls Tryd.prog 48 #[.slice ao kl.length ca, .int .i64 A, .int .i64 (en : Int), .bool on] w fun x w' => ∃ B : Nat, x = .returned (.int .i64 B) ∧ Hid (B = first + fnd (fun k => bitAt kl (first + k)) on m (A - first)) ∧ ∃ q, w' = w.drewN q := by
    rw [hen]; exact fun A h1 h2 on w hT hb => find_from ao ca kl hl hlen first m he A h1 h2 on w hT hb
  have HFF : Hid _ := hff
  obtain ⟨f, HF⟩ : ∃ f : Nat → Bool, f = fun k => bitAt kl (first + k) := ⟨_, rfl⟩
  rw [← HF] at HFF hY ⊢
  rw [← hen] at h3 HH
  have hen2 : first ≤ en := by omega
  have hen3 : en ≤ 100000000 := by omega
  clear hH hen HF hff
  refine callsIn_of_wp Tryd.func47 rfl trivial ?_ rfl
  simp only [Tryd.ntmps47, List.size_toArray, List.length_cons, List.length_nil, Nat.reduceAdd, Nat.reduceSub, Array.replicate_succ, Array.replicate_zero, List.push_toArray, List.append_toArray, List.nil_append, List.cons_append]
  gi_wp2_with fail
  refine ⟨trivial, ?_⟩
  gi_at_call 48
  refine (callsIn_wide.2 (HFF.out first (by omega) (by omega) true _ HH.out.tab HH.out.bytes)).mono ?_
  rintro e w' ⟨A0, rfl, HA0, q, rfl⟩
  have HR0 : Hid (A0 = first + fnd f true m 0) := by have := HA0.out; rw [Nat.sub_self] at this; exact this
  have HJ0 : Hid (J [] (W.drewN q)) := hA _ _ _ h0
  have HW0 : Hid (Held (W.drewN q) b1 b2 b3 ao ca kl first en) := HH.out.drewN q
  clear HA0 HH h0 h1 h2 h3
  gi_wp2
  gi_loopw [5] (fun p wr => ∃ A : Nat, first ≤ A ∧ A ≤ en ∧ p = .int .i64 A ∧ Hid ((A < en → f (A - first) = true) ∧ (A = first ∨ A = en ∨ f (A - first - 1) = false) ∧ J (rf f (A - first)) wr ∧ Held wr b1 b2 b3 ao ca kl first en)) (fun p _ => en - (intOf p).toNat)
  case atStart =>
    have hle := @fnd_le f true m 0
    have e1 := HE.out
    have e2 := HR0.out
    refine ⟨A0, by omega, by omega, rfl, fun hlt => ?_, ?_, ?_, HW0.out⟩
    · rw [e2, Nat.add_sub_cancel_left]; exact fnd_at (by omega)
    · by_cases hz : fnd f true m 0 = 0
      · left; omega
      · right; right
        rw [e2, Nat.add_sub_cancel_left]
        exact fnd_ahead (on := true) (e := m) (Nat.zero_le _) (by omega)
    · have e3 : rf f (A0 - first) = [] := by
        rw [e2, Nat.add_sub_cancel_left]
        exact rf_false (p := 0) (Nat.zero_le _) fun j h1 h2 => fnd_ahead (on := true) (e := m) h1 h2
      rw [e3]; exact HJ0.out
  case round =>
    clear HR0 HJ0 HW0
    obtain ⟨A, hA1, hA2, rfl, HD⟩ := hrel
    have h1 := HD.out.2.2.2.c1
    have h2 := HD.out.2.2.2.c2
    have h3 := HD.out.2.2.2.c3
    by_cases hlt : A < en
    · gi_wp2_with fail
      refine ⟨trivial, ?_⟩
      gi_at_call 48
      refine (callsIn_wide.2 (HFF.out A hA1 hA2 false _ HD.out.2.2.2.tab HD.out.2.2.2.bytes)).mono ?_
      rintro e w' ⟨B, rfl, HB, q1, rfl⟩
      have hle := @fnd_le f false m (A - first)
      have e1 := HE.out
      have e2 := HB.out
      have hge := @fnd_ge f false m (A - first) (by omega)
      have hfA := HD.out.1 hlt
      have hne : A - first ≠ fnd f false m (A - first) := by
        intro e
        have := fnd_at (f := f) (on := false) (e := m) (a := A - first) (by omega)
        rw [← e, hfA] at this
        exact absurd this (by decide)
      have hAB : A < B := by omega
      have hBe : B ≤ en := by omega
      have hrun : rf f (B - first) = rf f (A - first) ++ [(A - first, B - A)] := by
        have hp : A - first = 0 ∨ f (A - first - 1) = false := by
          rcases HD.out.2.1 with e | e | e
          · left; omega
          · omega
          · exact .inr e
        have := rf_run (f := f) hp (m := B - A) (by omega) fun j h1 h2 => by
          have := fnd_ahead (f := f) (on := false) (e := m) h1 (show j < fnd f false m (A - first) by omega)
          simpa using this
        rw [show A - first + (B - A) = B - first by omega] at this
        exact this
      have hBq : B - first = m ∨ f (B - first) = false := by
        by_cases hbe : B - first = m
        · exact .inl hbe
        · right
          have := fnd_at (f := f) (on := false) (e := m) (a := A - first) (by omega)
          rwa [show fnd f false m (A - first) = B - first by omega] at this
      have hlenp : (rf f (A - first)).length < (rf f m).length := by
        have := rf_len_mono f (show B - first ≤ m by omega)
        rw [hrun] at this
        simp at this
        omega
      obtain ⟨fn, tmps, assign, body, hy, hR⟩ := hY _ (A - first, B - A) (wr.drewN q1) (hA _ _ _ HD.out.2.2.1) hlenp
      have hE : encR (A - first, B - A) = #[.int .i64 ((A : Int) - first), .int .i64 ((B : Int) - A)] := by
        simp only [encR]
        rw [show ((min (A - first) 1000000000 : Nat) : Int) = (A : Int) - first by omega, show ((min (B - A) 1000000000 : Nat) : Int) = (B : Int) - A by omega]
      rw [hE] at hy
      have HF2 : Hid (rf f (B - first) = rf f (A - first) ++ [(A - first, B - A)] ∧ (B - first = m ∨ f (B - first) = false)) := ⟨hrun, hBq⟩
      have HW : Hid (Held (wr.drewN q1) b1 b2 b3 ao ca kl first en) := HD.out.2.2.2.drewN q1
      clear hle e1 e2 hge hfA hne hrun hBq hlenp hE HD HB
      gi_wp2
      refine hR.mono ?_
      rintro e W3 (⟨rfl, hJ3, hk3⟩ | ⟨rfl, hJx3⟩)
      · have HJ3 : Hid (J (rf f (B - first)) W3) := by show J _ _; rw [HF2.out.1]; exact hJ3
        have HW3 : Hid (Held W3 b1 b2 b3 ao ca kl first en) := HW.out.kept hk3
        have g1 := HW3.out.c1
        have g3 := HW3.out.c3
        clear hJ3 hk3 hR hy HW h1 h2 h3
        gi_wp2_with fail
        refine ⟨trivial, ?_⟩
        gi_at_call 48
        refine (callsIn_wide.2 (HFF.out B (by omega) hBe true _ HW3.out.tab HW3.out.bytes)).mono ?_
        rintro e w' ⟨A2, rfl, HA2, q2, rfl⟩
        have hle2 := @fnd_le f true m (B - first)
        have hge2 := @fnd_ge f true m (B - first) (by have := HE.out; omega)
        have hA2e := HA2.out
        have hE2 := HE.out
        have hb1 : B ≤ A2 := by omega
        have hb2 : A2 ≤ en := by omega
        have HD2 : Hid ((A2 < en → f (A2 - first) = true) ∧ (A2 = first ∨ A2 = en ∨ f (A2 - first - 1) = false) ∧ J (rf f (A2 - first)) (W3.drewN q2) ∧ Held (W3.drewN q2) b1 b2 b3 ao ca kl first en) := by
          refine ⟨fun h => ?_, ?_, ?_, HW3.out.drewN q2⟩
          · have := fnd_at (f := f) (on := true) (e := m) (a := B - first) (by omega)
            rwa [show fnd f true m (B - first) = A2 - first by omega] at this
          · by_cases hx : A2 = en
            · exact .inr (.inl hx)
            · right; right
              by_cases hy' : A2 = B
              · exfalso
                have h5 := fnd_at (f := f) (on := true) (e := m) (a := B - first) (by omega)
                rw [show fnd f true m (B - first) = B - first by omega] at h5
                rcases HF2.out.2 with h6 | h6
                · omega
                · rw [h6] at h5; exact absurd h5 (by decide)
              · exact fnd_ahead (f := f) (on := true) (e := m) (a := B - first) (by omega) (by omega)
          · have h7 : rf f (A2 - first) = rf f (B - first) := rf_false (by omega) fun j h1 h2 => fnd_ahead (f := f) (on := true) (e := m) (a := B - first) h1 (by omega)
            rw [h7]
            exact hA _ _ _ HJ3.out
        clear hle2 hge2 hA2e hE2 HA2 HJ3 HW3 g1 g3 HF2
        gi_wp2
        go_roundw
        case rel => exact ⟨A2, by omega, by omega, rfl, HD2⟩
        case measure => simp [intOf]; omega
      · have HX : Hid (∃ pre, pre <+: rf f m ∧ Jx pre W3) := ⟨rf f (B - first), rf_prefix (by have := HE.out; omega) HF2.out.2, by rw [HF2.out.1]; exact hJx3⟩
        clear hJx3 hR hy HW h1 h2 h3 HF2
        gi_wp2
        refine bodyPost_ret (results_none rfl _ _ _) rfl ?_
        exact ⟨⟨_, rfl⟩, .inr HX.out⟩
    · have hAe : A = en := by omega
      have HX : Hid (∃ ys, ys = rf f m ∧ J ys wr) := ⟨rf f (A - first), by rw [show A - first = m by have := HE.out; omega], HD.out.2.2.1⟩
      clear HD
      gi_wp2
      go_end0
      exact ⟨⟨_, rfl⟩, .inl HX.out⟩
end Go.Proofs.YteppfammimbmcaaDoor.Kit
