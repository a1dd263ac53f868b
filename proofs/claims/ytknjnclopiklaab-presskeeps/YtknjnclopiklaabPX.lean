import Derived.Test.YtknjnclopiklaabPW
namespace Go.Proofs.Ytknjnclopiklaab.Kit
open Go.RowKit Go.Shelf Go.Deep
set_option linter.unusedVariables false
attribute [local go_sem] run_store_func

/-! ### references -/
theorem comN_le : ∀ a b : List UInt8, comN a b ≤ a.length
  | [], b => by simp [comN]
  | x :: a, [] => by simp [comN]
  | x :: a, y :: b => by
    have := comN_le a b
    unfold comN
    split <;> simp <;> omega
theorem comN_ge : ∀ {a b : List UInt8} {n : Nat}, n ≤ a.length → n ≤ b.length → (∀ j (h : j < a.length) (h' : j < b.length), j < n → a[j] = b[j]) → n ≤ comN a b
  | a, b, 0, _, _, _ => by omega
  | [], b, n + 1, h, _, _ => by simp at h
  | x :: a, [], n + 1, _, h, _ => by simp at h
  | x :: a, y :: b, n + 1, h1, h2, h3 => by
    have h0 := h3 0 (by simp) (by simp) (by omega)
    simp at h0 h1 h2
    have := comN_ge (a := a) (b := b) (n := n) (by omega) (by omega) (fun j h h' hj => by have := h3 (j + 1) (by simp; omega) (by simp; omega) (by omega); simpa using this)
    simp [comN, h0]
    omega
theorem comN_stop : ∀ {a b : List UInt8} {n : Nat} (h1 : n < a.length) (h2 : n < b.length), a[n] ≠ b[n] → comN a b ≤ n
  | [], b, n, h, _, _ => by simp at h
  | x :: a, [], n, _, h, _ => by simp at h
  | x :: a, y :: b, 0, h1, h2, h3 => by
    simp at h3
    simp [comN, h3]
  | x :: a, y :: b, n + 1, h1, h2, h3 => by
    simp at h1 h2 h3
    have := comN_stop (a := a) (b := b) (n := n) (by omega) (by omega) h3
    unfold comN
    split <;> omega
def ComTo (bs : List UInt8) (i p n : Nat) : Prop := i + n ≤ bs.length ∧ ∀ j, j < n → bs.getD (i + j) 0 = bs.getD (p + j) 0
theorem ComTo.next {bs : List UInt8} {i p n : Nat} (h : ComTo bs i p n) (hl : i + n < bs.length) (he : bs.getD (i + n) 0 = bs.getD (p + n) 0) : ComTo bs i p (n + 1) :=
  ⟨by omega, fun j hj => by
    by_cases e : j = n
    · subst e; exact he
    · exact h.2 j (by omega)⟩
theorem ComTo.done {bs : List UInt8} {i p n : Nat} (hp : p < i) (h : ComTo bs i p n) (hn : n ≤ 131) (he : n = 131 ∨ i + n = bs.length ∨ bs.getD (i + n) 0 ≠ bs.getD (p + n) 0) : backN bs i p = n := by
  have hi := h.1
  have h1 : n ≤ (bs.drop i).length := by simp; omega
  have h2 : n ≤ (bs.drop p).length := by simp; omega
  have hge := comN_ge h1 h2 (fun j hj hj' hjn => by rw [drop_get hj, drop_get hj']; exact h.2 j hjn)
  have hle := comN_le (bs.drop i) (bs.drop p)
  rw [List.length_drop] at hle
  unfold backN
  by_cases e3 : n = 131 ∨ i + n = bs.length
  · omega
  · have e : bs.getD (i + n) 0 ≠ bs.getD (p + n) 0 := by
      rcases he with e | e | e
      · exact absurd (.inl e) e3
      · exact absurd (.inr e) e3
      · exact e
    have a1 : n < (bs.drop i).length := by simp; omega
    have a2 : n < (bs.drop p).length := by simp; omega
    have := comN_stop a1 a2 (by rw [drop_get a1, drop_get a2]; exact e)
    omega
theorem ComTo.four {bs : List UInt8} {i p : Nat} (hi : i + 4 ≤ bs.length) (hp : p < i) (h : four bs p = Kit.four bs i) : ComTo bs i p 4 := by
  rw [four_eq (i := p) (by omega), four_eq hi] at h
  simp only [List.cons.injEq, and_true] at h
  refine ⟨by omega, fun j hj => ?_⟩
  obtain rfl | rfl | rfl | rfl : j = 0 ∨ j = 1 ∨ j = 2 ∨ j = 3 := by omega
  · exact h.1.symm
  · exact h.2.1.symm
  · exact h.2.2.1.symm
  · exact h.2.2.2.symm
theorem metO_some {bs : List UInt8} {i p : Nat} (h : metO bs i = some p) : i + 4 ≤ bs.length ∧ p < i ∧ four bs p = four bs i := by
  unfold metO at h
  split at h
  · rename_i c
    have := metGo_lt h
    exact ⟨c, this.1, this.2⟩
  · cases h
theorem backI_some {bs : List UInt8} {i p : Nat} (h : metO bs i = some p) : backI bs i = backN bs i p := by unfold backI; rw [h]
theorem backI_none {bs : List UInt8} {i : Nat} (h : metO bs i = none) : backI bs i = 0 := by unfold backI; rw [h]
/-- the places, somewhere in memory -/
def MetsAt (W : World) (ao : Option Addr) (bs : List UInt8) : Prop :=
  bs.length - 3 ≠ 0 → ∃ b o, ao = some ⟨b, o, none⟩ ∧ ∀ i, i < bs.length - 3 → W.cell? ⟨b, o + i, none⟩ = some (.int .i64 (metZ (metO bs i)))
theorem MetsAt.gr {W W' : World} {ao : Option Addr} {bs : List UInt8} (h : MetsAt W ao bs) (g : Gr W W') : MetsAt W' ao bs := fun hn => by
  obtain ⟨b, o, e, hc⟩ := h hn
  exact ⟨b, o, e, fun j hj => g.cell' (hc j hj) id⟩
theorem Mets.at {w W : World} {B : Nat} {vo : Option Addr} {vc : Nat} {bs : List UInt8} (h : Mets w W B vo vc (bs.length - 3) bs) : MetsAt W vo bs := fun hn => by
  rcases h.own.2 with ⟨e, h0⟩ | ⟨g, cap, cur, e, _⟩
  · exact absurd h0 hn
  · cases e
    refine ⟨g, 0, rfl, fun j hj => ?_⟩
    rw [Nat.zero_add, h.own.cellAt j (by omega)]
    simp [metsL, hj]
set_option maxRecDepth 100000 in
set_option maxHeartbeats 4000000 in
theorem backAt_any {ao mo : Option Addr} {ca mc i : Nat} {bs : List UInt8} {w : World} (h : BytesAt w ao bs) (hm : MetsAt w mo bs) (hi : i < bs.length) (hl : bs.length ≤ 100000) :
    ∀ W, Gr w W → Calls Try.prog 28 #[.slice ao bs.length ca, .slice mo (bs.length - 3) mc, .int .i64 (i : Int)] W fun e w' => e = .returned (.int .i64 (backI bs i : Int)) ∧ Gr W w' := by
  intro W g
  obtain ⟨b, o, rfl, hc⟩ := (h.gr g).at (ne_nil hi)
  have HC := hidM hc
  have HM := hidM (hm.gr g)
  obtain ⟨L, hL⟩ : ∃ L, L = bs.length := ⟨_, rfl⟩
  obtain ⟨Q, hQ⟩ : ∃ Q, Q = bs.length - 3 := ⟨_, rfl⟩
  rw [← hQ, ← hL]
  rw [← hL] at hi hl
  have hQL : Q = L - 3 := by omega
  have HL := hidM hL
  have HQ := hidM hQ
  clear hc h g hL hm hQ
  have hi0 : (0 : Int) ≤ (i : Int) := by omega
  go_enter Try.func28, Try.ntmps28
  by_cases c0 : i < Q
  rotate_left
  · have c0I : (Q : Int) ≤ (i : Int) := by omega
    have HZ : Hid (backI bs i = 0) := backI_none (by unfold metO; rw [if_neg (by rw [← HL.out]; omega)])
    go_wp2_with fail
    go_ret
    exact ⟨by rw [HZ.out]; rfl, Keeps.refl _ _⟩
  have c0I : ¬ (Q : Int) ≤ (i : Int) := by omega
  have c0J : (i : Int) < (Q : Int) := by omega
  obtain ⟨mb, mof, rfl, hmc⟩ := HM.out (by rw [← HQ.out]; omega)
  have m0 := hmc i (by rw [← HQ.out]; exact c0)
  clear hmc HM
  cases hme : metO bs i with
  | none =>
    have HZ := hidM (backI_none hme)
    rw [hme] at m0
    have m1 : W.cell? ⟨mb, mof + i, none⟩ = some (.int .i64 (-1)) := m0
    clear m0 hme
    go_wp2_with fail
    go_ret
    exact ⟨by rw [HZ.out]; rfl, Keeps.refl _ _⟩
  | some p =>
    have HZ := hidM (backI_some hme)
    obtain ⟨hp1, hp2, hp3⟩ := metO_some hme
    rw [hme] at m0
    have m1 : W.cell? ⟨mb, mof + i, none⟩ = some (.int .i64 (p : Int)) := m0
    have HC4 := hidM (ComTo.four hp1 hp2 hp3)
    rw [← HL.out] at hp1
    have hpI : ¬ (p : Int) < 0 := by omega
    have hp0 : (0 : Int) ≤ (p : Int) := by omega
    clear m0 hme hp3
    go_wp2_with fail
    go_loopw [7] (fun q wr => ∃ n : Nat, 4 ≤ n ∧ n ≤ 131 ∧ i + n ≤ L ∧ q = .int .i64 (n : Int) ∧ Hid (ComTo bs i p n ∧ Gr W wr)) (fun q _ => 200 - (intOf q).toNat)
    case atStart => exact ⟨4, by omega, by omega, by omega, rfl, HC4.out, Keeps.refl _ _⟩
    case round =>
      obtain ⟨n, hn1, hn2, hn3, rfl, HR⟩ := hrel
      have m2 := HR.out.2.cell' m1 id
      have HF : Hid ((n = 131 ∨ i + n = L ∨ bs.getD (i + n) 0 ≠ bs.getD (p + n) 0) → backI bs i = n) := fun h => by
        rw [HZ.out]
        exact HR.out.1.done hp2 hn2 (by rw [HL.out] at h; exact h)
      by_cases c1 : n < 131
      rotate_left
      · have c1I : decide ((n : Int) < 131) = false := by simp; omega
        have HE := hidM (HF.out (.inl (by omega)))
        clear HF
        go_wp2_with fail
        go_quiet (fail)
        go_wp2_with fail
        go_ret
        exact ⟨by rw [HE.out]; rfl, HR.out.2.drewN _⟩
      have c1I : (n : Int) < 131 := by omega
      by_cases c2 : i + n < L
      rotate_left
      · have c2I : decide ((i : Int) + (n : Int) < (L : Int)) = false := by simp; omega
        have HE := hidM (HF.out (.inr (.inl (by omega))))
        clear HF
        go_wp2_with fail
        go_quiet (fail)
        go_wp2_with fail
        go_ret
        exact ⟨by rw [HE.out]; rfl, HR.out.2.drewN _⟩
      have c2I : (i : Int) + (n : Int) < (L : Int) := by omega
      have c3I : (p : Int) + (n : Int) < (L : Int) := by omega
      have t1 := HR.out.2.cell' (HC.out (i + n) (by rw [← HL.out]; exact c2)) id
      have t2 := HR.out.2.cell' (HC.out (p + n) (by rw [← HL.out]; omega)) id
      by_cases c3 : bs.getD (i + n) 0 = bs.getD (p + n) 0
      rotate_left
      · have e1 := u8_bne.2 c3
        have HE := hidM (HF.out (.inr (.inr c3)))
        obtain ⟨x, hx⟩ : ∃ x : Int, x = ((bs.getD (i + n) 0).toNat : Int) := ⟨_, rfl⟩
        obtain ⟨y, hy⟩ : ∃ y : Int, y = ((bs.getD (p + n) 0).toNat : Int) := ⟨_, rfl⟩
        rw [← hx, ← hy] at e1
        rw [← hx] at t1
        rw [← hy] at t2
        clear HF hx hy c3
        go_wp2_with fail
        go_quiet (fail)
        go_wp2_with fail
        go_ret
        exact ⟨by rw [HE.out]; rfl, HR.out.2.drewN _⟩
      have HN := hidM (HR.out.1.next (by rw [← HL.out]; exact c2) c3)
      rw [c3] at t1
      obtain ⟨y, hy⟩ : ∃ y : Int, y = ((bs.getD (p + n) 0).toNat : Int) := ⟨_, rfl⟩
      rw [← hy] at t1 t2
      clear HF hy c3
      go_wp2_with fail
      go_quiet (fail)
      go_wp2_with fail
      go_roundw
      case rel => exact ⟨n + 1, by omega, by omega, by omega, by simp, HN.out, HR.out.2.drewN _⟩
      case measure => simp [intOf]; omega

end Go.Proofs.Ytknjnclopiklaab.Kit
