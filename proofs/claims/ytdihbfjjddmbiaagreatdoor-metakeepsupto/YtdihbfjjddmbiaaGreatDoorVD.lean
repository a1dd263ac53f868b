import Derived.Test.YtdihbfjjddmbiaaGreatDoorVC
import Derived.Deep.RegionHeld3
set_option maxRecDepth 100000
set_option maxHeartbeats 4000000
namespace Go.Proofs.YtdihbfjjddmbiaaGreatDoor.Kit
open Go.RowKit Go.Shelf Go.Deep
set_option linter.unusedVariables false
attribute [local go_sem] run_store_func
theorem fieldR_any (S : Nat → Prop) : ∀ (d : Nat) (f : FT) (ao : Option Addr) (ca : Nat) (w : World), RowAt S w d ao f.kids → okM f → (∀ g ∈ pre d f.kids, okM g) →
    ∀ W vo vc n bs, Byts w W vo vc n bs → n + (fldB d f).length ≤ 500000 → Calls Tryz.prog 15 #[.slice vo n vc, .agg #[.string f.name, .bool f.nul, .int .i64 f.kind, .int .i64 f.width, .int .i64 f.id, .int .i64 f.index, .slice ao f.kids.length ca]] W fun e w' => ∃ vo' vc' n', e = .returned (.slice vo' n' vc') ∧ Ap w W w' vo vc n vo' vc' n' (bs ++ fldB d f)
  | 0, f, ao, ca, w, hr, ok, hp => by
    have hk : f.kids = [] := hr
    have h := fieldR_walk f ao ca (fun _ => []) w ok (fun hne => absurd hk hne)
    have e : hdB f ++ f.kids.flatMap (fun _ => ([] : List UInt8)) = fldB 0 f := by rw [hk]; simp [fldB]
    rw [e] at h
    exact h
  | d + 1, f, ao, ca, w, hr, ok, hp => by
    refine fieldR_walk f ao ca (fldB d) w ok fun hne => ?_
    obtain ⟨b, o, e, hb, hc⟩ := hr.2 hne
    refine ⟨b, o, e, fun i hi => ?_⟩
    obtain ⟨ao', ca', h1, h2, h3⟩ := hc i hi
    have hmem : f.kids[i] ∈ f.kids := List.getElem_mem hi
    have e : pre (d + 1) f.kids = f.kids.flatMap fun f => f :: pre d f.kids := rfl
    have hsub : ∀ g, g = f.kids[i] ∨ g ∈ pre d f.kids[i].kids → g ∈ pre (d + 1) f.kids := fun g hg => by
      rw [e, List.mem_flatMap]
      exact ⟨_, hmem, by simpa using hg⟩
    exact ⟨ao', ca', h1, fieldR_any S d f.kids[i] ao' ca' w h3 (hp _ (hsub _ (.inl rfl))) fun g hg => hp g (hsub g (.inr hg))⟩
def tabP (k wi di xi : Int) (n : Nat) : Bool := kindB k && (decide (leastK k.toNat ≤ (n : Int)) && decide ((n : Int) ≤ mostK k.toNat) && (if k = 14 then decide (1 ≤ wi) && decide (wi ≤ 16) else if k = 16 then decide (1 ≤ wi) && decide (wi ≤ 64) else decide (wi = 0)) && (if k = 19 then (decide (0 ≤ di) && decide (di < 32)) && indexB xi else decide (di = 0) && decide (xi = 0)))
theorem tabP_eq (f : FT) : tabP f.kind f.width f.id f.index f.kids.length = tableB f := rfl
theorem low_K {k : Int} (h1 : 1 ≤ k) (h2 : k ≤ 13) : leastK k.toNat = 0 ∧ mostK k.toNat = 0 := by
  obtain ⟨m, hm⟩ : ∃ m : Nat, k = (m : Int) := ⟨k.toNat, by omega⟩
  rw [hm] at h1 h2 ⊢
  simp only [Int.toNat_natCast]
  have : m = 1 ∨ m = 2 ∨ m = 3 ∨ m = 4 ∨ m = 5 ∨ m = 6 ∨ m = 7 ∨ m = 8 ∨ m = 9 ∨ m = 10 ∨ m = 11 ∨ m = 12 ∨ m = 13 := by omega
  rcases this with rfl | rfl | rfl | rfl | rfl | rfl | rfl | rfl | rfl | rfl | rfl | rfl | rfl <;> exact ⟨rfl, rfl⟩
theorem shaped_any (k wi di xi : Int) (ao : Option Addr) (n ca : Nat) (W : World) (hn : n ≤ 1000000000000) : Calls Tryz.prog 51 #[.agg #[.int .i64 k, .int .i64 wi, .int .i64 di, .int .i64 xi, .slice ao n ca]] W fun e w' => e = .returned (.bool (tabP k wi di xi n)) ∧ Gr W w' := by
  by_cases h1 : k < 1
  · have HT : Hid (tabP k wi di xi n = false) := by show _ = _; rw [Bool.eq_false_iff]; intro h; simp [tabP, kindB] at h; omega
    go_enter Tryz.func51, Tryz.ntmps51
    go_wp2
    go_ret
    exact ⟨by rw [HT.out]; rfl, gr_alloc _ _⟩
  by_cases h2 : 20 < k
  · have HT : Hid (tabP k wi di xi n = false) := by show _ = _; rw [Bool.eq_false_iff]; intro h; simp [tabP, kindB] at h; omega
    go_enter Tryz.func51, Tryz.ntmps51
    go_wp2
    go_ret
    exact ⟨by rw [HT.out]; rfl, gr_alloc _ _⟩
  by_cases c14 : k = 14
  · subst c14
    clear h1 h2
    by_cases w1 : wi < 1
    · have HT : Hid (tabP 14 wi di xi n = false) := by show _ = _; rw [Bool.eq_false_iff]; intro h; simp [tabP, kindB, leastK, mostK] at h; omega
      go_enter Tryz.func51, Tryz.ntmps51
      go_wp2
      go_ret
      exact ⟨by rw [HT.out]; rfl, gr_alloc _ _⟩
    by_cases w2 : 16 < wi
    · have HT : Hid (tabP 14 wi di xi n = false) := by show _ = _; rw [Bool.eq_false_iff]; intro h; simp [tabP, kindB, leastK, mostK] at h; omega
      go_enter Tryz.func51, Tryz.ntmps51
      go_wp2
      go_ret
      exact ⟨by rw [HT.out]; rfl, gr_alloc _ _⟩
    by_cases zdi : di = 0
    rotate_left
    · have zdib : (di == 0) = false := beqF zdi
      have zdin : (di != 0) = true := by simpa using zdi
      have HT : Hid (tabP 14 wi di xi n = false) := by show _ = _; rw [Bool.eq_false_iff]; intro h; simp [tabP, kindB, leastK, mostK] at h; omega
      go_enter Tryz.func51, Tryz.ntmps51
      go_wp2
      go_ret
      exact ⟨by rw [HT.out]; rfl, gr_alloc _ _⟩
    subst zdi
    by_cases zxi : xi = 0
    rotate_left
    · have zxib : (xi == 0) = false := beqF zxi
      have zxin : (xi != 0) = true := by simpa using zxi
      have HT : Hid (tabP 14 wi 0 xi n = false) := by show _ = _; rw [Bool.eq_false_iff]; intro h; simp [tabP, kindB, leastK, mostK] at h; omega
      go_enter Tryz.func51, Tryz.ntmps51
      go_wp2
      go_ret
      exact ⟨by rw [HT.out]; rfl, gr_alloc _ _⟩
    subst zxi
    by_cases nE : n = 0
    · have HT : Hid (tabP 14 wi 0 0 n = true) := by show _ = _; simp [tabP, kindB, leastK, mostK]; omega
      have hbq : ((n : Int) == 0) = true := by simp [nE]
      clear nE
      go_enter Tryz.func51, Tryz.ntmps51
      go_wp2
      go_ret
      exact ⟨by rw [HT.out]; rfl, gr_alloc _ _⟩
    have HT : Hid (tabP 14 wi 0 0 n = false) := by show _ = _; rw [Bool.eq_false_iff]; intro h; simp [tabP, kindB, leastK, mostK] at h; omega
    have hbq : ((n : Int) == 0) = false := beqF (by omega)
    clear nE
    go_enter Tryz.func51, Tryz.ntmps51
    go_wp2
    go_ret
    exact ⟨by rw [HT.out]; rfl, gr_alloc _ _⟩
  by_cases c16 : k = 16
  · subst c16
    clear h1 h2
    by_cases w1 : wi < 1
    · have HT : Hid (tabP 16 wi di xi n = false) := by show _ = _; rw [Bool.eq_false_iff]; intro h; simp [tabP, kindB, leastK, mostK] at h; omega
      go_enter Tryz.func51, Tryz.ntmps51
      go_wp2
      go_ret
      exact ⟨by rw [HT.out]; rfl, gr_alloc _ _⟩
    by_cases w2 : 64 < wi
    · have HT : Hid (tabP 16 wi di xi n = false) := by show _ = _; rw [Bool.eq_false_iff]; intro h; simp [tabP, kindB, leastK, mostK] at h; omega
      go_enter Tryz.func51, Tryz.ntmps51
      go_wp2
      go_ret
      exact ⟨by rw [HT.out]; rfl, gr_alloc _ _⟩
    by_cases zdi : di = 0
    rotate_left
    · have zdib : (di == 0) = false := beqF zdi
      have zdin : (di != 0) = true := by simpa using zdi
      have HT : Hid (tabP 16 wi di xi n = false) := by show _ = _; rw [Bool.eq_false_iff]; intro h; simp [tabP, kindB, leastK, mostK] at h; omega
      go_enter Tryz.func51, Tryz.ntmps51
      go_wp2
      go_ret
      exact ⟨by rw [HT.out]; rfl, gr_alloc _ _⟩
    subst zdi
    by_cases zxi : xi = 0
    rotate_left
    · have zxib : (xi == 0) = false := beqF zxi
      have zxin : (xi != 0) = true := by simpa using zxi
      have HT : Hid (tabP 16 wi 0 xi n = false) := by show _ = _; rw [Bool.eq_false_iff]; intro h; simp [tabP, kindB, leastK, mostK] at h; omega
      go_enter Tryz.func51, Tryz.ntmps51
      go_wp2
      go_ret
      exact ⟨by rw [HT.out]; rfl, gr_alloc _ _⟩
    subst zxi
    by_cases nE : n = 1
    · have HT : Hid (tabP 16 wi 0 0 n = true) := by show _ = _; simp [tabP, kindB, leastK, mostK]; omega
      have hbq : ((n : Int) == 1) = true := by simp [nE]
      clear nE
      go_enter Tryz.func51, Tryz.ntmps51
      go_wp2
      go_ret
      exact ⟨by rw [HT.out]; rfl, gr_alloc _ _⟩
    have HT : Hid (tabP 16 wi 0 0 n = false) := by show _ = _; rw [Bool.eq_false_iff]; intro h; simp [tabP, kindB, leastK, mostK] at h; omega
    have hbq : ((n : Int) == 1) = false := beqF (by omega)
    clear nE
    go_enter Tryz.func51, Tryz.ntmps51
    go_wp2
    go_ret
    exact ⟨by rw [HT.out]; rfl, gr_alloc _ _⟩
  by_cases c15 : k = 15
  · subst c15
    clear h1 h2
    by_cases zwi : wi = 0
    rotate_left
    · have zwib : (wi == 0) = false := beqF zwi
      have zwin : (wi != 0) = true := by simpa using zwi
      have HT : Hid (tabP 15 wi di xi n = false) := by show _ = _; rw [Bool.eq_false_iff]; intro h; simp [tabP, kindB, leastK, mostK] at h; omega
      go_enter Tryz.func51, Tryz.ntmps51
      go_wp2
      go_ret
      exact ⟨by rw [HT.out]; rfl, gr_alloc _ _⟩
    subst zwi
    by_cases zdi : di = 0
    rotate_left
    · have zdib : (di == 0) = false := beqF zdi
      have zdin : (di != 0) = true := by simpa using zdi
      have HT : Hid (tabP 15 0 di xi n = false) := by show _ = _; rw [Bool.eq_false_iff]; intro h; simp [tabP, kindB, leastK, mostK] at h; omega
      go_enter Tryz.func51, Tryz.ntmps51
      go_wp2
      go_ret
      exact ⟨by rw [HT.out]; rfl, gr_alloc _ _⟩
    subst zdi
    by_cases zxi : xi = 0
    rotate_left
    · have zxib : (xi == 0) = false := beqF zxi
      have zxin : (xi != 0) = true := by simpa using zxi
      have HT : Hid (tabP 15 0 0 xi n = false) := by show _ = _; rw [Bool.eq_false_iff]; intro h; simp [tabP, kindB, leastK, mostK] at h; omega
      go_enter Tryz.func51, Tryz.ntmps51
      go_wp2
      go_ret
      exact ⟨by rw [HT.out]; rfl, gr_alloc _ _⟩
    subst zxi
    by_cases nE : n = 1
    · have HT : Hid (tabP 15 0 0 0 n = true) := by show _ = _; simp [tabP, kindB, leastK, mostK]; omega
      have hbq : ((n : Int) == 1) = true := by simp [nE]
      clear nE
      go_enter Tryz.func51, Tryz.ntmps51
      go_wp2
      go_ret
      exact ⟨by rw [HT.out]; rfl, gr_alloc _ _⟩
    have HT : Hid (tabP 15 0 0 0 n = false) := by show _ = _; rw [Bool.eq_false_iff]; intro h; simp [tabP, kindB, leastK, mostK] at h; omega
    have hbq : ((n : Int) == 1) = false := beqF (by omega)
    clear nE
    go_enter Tryz.func51, Tryz.ntmps51
    go_wp2
    go_ret
    exact ⟨by rw [HT.out]; rfl, gr_alloc _ _⟩
  by_cases c20 : k = 20
  · subst c20
    clear h1 h2
    by_cases zwi : wi = 0
    rotate_left
    · have zwib : (wi == 0) = false := beqF zwi
      have zwin : (wi != 0) = true := by simpa using zwi
      have HT : Hid (tabP 20 wi di xi n = false) := by show _ = _; rw [Bool.eq_false_iff]; intro h; simp [tabP, kindB, leastK, mostK] at h; omega
      go_enter Tryz.func51, Tryz.ntmps51
      go_wp2
      go_ret
      exact ⟨by rw [HT.out]; rfl, gr_alloc _ _⟩
    subst zwi
    by_cases zdi : di = 0
    rotate_left
    · have zdib : (di == 0) = false := beqF zdi
      have zdin : (di != 0) = true := by simpa using zdi
      have HT : Hid (tabP 20 0 di xi n = false) := by show _ = _; rw [Bool.eq_false_iff]; intro h; simp [tabP, kindB, leastK, mostK] at h; omega
      go_enter Tryz.func51, Tryz.ntmps51
      go_wp2
      go_ret
      exact ⟨by rw [HT.out]; rfl, gr_alloc _ _⟩
    subst zdi
    by_cases zxi : xi = 0
    rotate_left
    · have zxib : (xi == 0) = false := beqF zxi
      have zxin : (xi != 0) = true := by simpa using zxi
      have HT : Hid (tabP 20 0 0 xi n = false) := by show _ = _; rw [Bool.eq_false_iff]; intro h; simp [tabP, kindB, leastK, mostK] at h; omega
      go_enter Tryz.func51, Tryz.ntmps51
      go_wp2
      go_ret
      exact ⟨by rw [HT.out]; rfl, gr_alloc _ _⟩
    subst zxi
    by_cases nE : n = 1
    · have HT : Hid (tabP 20 0 0 0 n = true) := by show _ = _; simp [tabP, kindB, leastK, mostK]; omega
      have hbq : ((n : Int) == 1) = true := by simp [nE]
      clear nE
      go_enter Tryz.func51, Tryz.ntmps51
      go_wp2
      go_ret
      exact ⟨by rw [HT.out]; rfl, gr_alloc _ _⟩
    have HT : Hid (tabP 20 0 0 0 n = false) := by show _ = _; rw [Bool.eq_false_iff]; intro h; simp [tabP, kindB, leastK, mostK] at h; omega
    have hbq : ((n : Int) == 1) = false := beqF (by omega)
    clear nE
    go_enter Tryz.func51, Tryz.ntmps51
    go_wp2
    go_ret
    exact ⟨by rw [HT.out]; rfl, gr_alloc _ _⟩
  by_cases c17 : k = 17
  · subst c17
    clear h1 h2
    by_cases zwi : wi = 0
    rotate_left
    · have zwib : (wi == 0) = false := beqF zwi
      have zwin : (wi != 0) = true := by simpa using zwi
      have HT : Hid (tabP 17 wi di xi n = false) := by show _ = _; rw [Bool.eq_false_iff]; intro h; simp [tabP, kindB, leastK, mostK] at h; omega
      go_enter Tryz.func51, Tryz.ntmps51
      go_wp2
      go_ret
      exact ⟨by rw [HT.out]; rfl, gr_alloc _ _⟩
    subst zwi
    by_cases zdi : di = 0
    rotate_left
    · have zdib : (di == 0) = false := beqF zdi
      have zdin : (di != 0) = true := by simpa using zdi
      have HT : Hid (tabP 17 0 di xi n = false) := by show _ = _; rw [Bool.eq_false_iff]; intro h; simp [tabP, kindB, leastK, mostK] at h; omega
      go_enter Tryz.func51, Tryz.ntmps51
      go_wp2
      go_ret
      exact ⟨by rw [HT.out]; rfl, gr_alloc _ _⟩
    subst zdi
    by_cases zxi : xi = 0
    rotate_left
    · have zxib : (xi == 0) = false := beqF zxi
      have zxin : (xi != 0) = true := by simpa using zxi
      have HT : Hid (tabP 17 0 0 xi n = false) := by show _ = _; rw [Bool.eq_false_iff]; intro h; simp [tabP, kindB, leastK, mostK] at h; omega
      go_enter Tryz.func51, Tryz.ntmps51
      go_wp2
      go_ret
      exact ⟨by rw [HT.out]; rfl, gr_alloc _ _⟩
    subst zxi
    by_cases nE : n ≤ 32
    · have HT : Hid (tabP 17 0 0 0 n = true) := by show _ = _; simp [tabP, kindB, leastK, mostK]; omega
      have nEI : (n : Int) ≤ 32 := by omega
      go_enter Tryz.func51, Tryz.ntmps51
      go_wp2
      go_ret
      exact ⟨by rw [HT.out]; rfl, gr_alloc _ _⟩
    have HT : Hid (tabP 17 0 0 0 n = false) := by show _ = _; rw [Bool.eq_false_iff]; intro h; simp [tabP, kindB, leastK, mostK] at h; omega
    have nEI : ¬ (n : Int) ≤ 32 := by omega
    go_enter Tryz.func51, Tryz.ntmps51
    go_wp2
    go_ret
    exact ⟨by rw [HT.out]; rfl, gr_alloc _ _⟩
  by_cases c18 : k = 18
  · subst c18
    clear h1 h2
    by_cases zwi : wi = 0
    rotate_left
    · have zwib : (wi == 0) = false := beqF zwi
      have zwin : (wi != 0) = true := by simpa using zwi
      have HT : Hid (tabP 18 wi di xi n = false) := by show _ = _; rw [Bool.eq_false_iff]; intro h; simp [tabP, kindB, leastK, mostK] at h; omega
      go_enter Tryz.func51, Tryz.ntmps51
      go_wp2
      go_ret
      exact ⟨by rw [HT.out]; rfl, gr_alloc _ _⟩
    subst zwi
    by_cases zdi : di = 0
    rotate_left
    · have zdib : (di == 0) = false := beqF zdi
      have zdin : (di != 0) = true := by simpa using zdi
      have HT : Hid (tabP 18 0 di xi n = false) := by show _ = _; rw [Bool.eq_false_iff]; intro h; simp [tabP, kindB, leastK, mostK] at h; omega
      go_enter Tryz.func51, Tryz.ntmps51
      go_wp2
      go_ret
      exact ⟨by rw [HT.out]; rfl, gr_alloc _ _⟩
    subst zdi
    by_cases zxi : xi = 0
    rotate_left
    · have zxib : (xi == 0) = false := beqF zxi
      have zxin : (xi != 0) = true := by simpa using zxi
      have HT : Hid (tabP 18 0 0 xi n = false) := by show _ = _; rw [Bool.eq_false_iff]; intro h; simp [tabP, kindB, leastK, mostK] at h; omega
      go_enter Tryz.func51, Tryz.ntmps51
      go_wp2
      go_ret
      exact ⟨by rw [HT.out]; rfl, gr_alloc _ _⟩
    subst zxi
    by_cases nZ : n < 1
    · have HT : Hid (tabP 18 0 0 0 n = false) := by show _ = _; rw [Bool.eq_false_iff]; intro h; simp [tabP, kindB, leastK, mostK] at h; omega
      have nZI : (n : Int) < 1 := by omega
      go_enter Tryz.func51, Tryz.ntmps51
      go_wp2
      go_ret
      exact ⟨by rw [HT.out]; rfl, gr_alloc _ _⟩
    by_cases nE : n ≤ 32
    · have HT : Hid (tabP 18 0 0 0 n = true) := by show _ = _; simp [tabP, kindB, leastK, mostK]; omega
      have nEI : (n : Int) ≤ 32 := by omega
      go_enter Tryz.func51, Tryz.ntmps51
      go_wp2
      go_ret
      exact ⟨by rw [HT.out]; rfl, gr_alloc _ _⟩
    have HT : Hid (tabP 18 0 0 0 n = false) := by show _ = _; rw [Bool.eq_false_iff]; intro h; simp [tabP, kindB, leastK, mostK] at h; omega
    have nZI : ¬ (n : Int) < 1 := by omega
    have nEI : ¬ (n : Int) ≤ 32 := by omega
    go_enter Tryz.func51, Tryz.ntmps51
    go_wp2
    go_ret
    exact ⟨by rw [HT.out]; rfl, gr_alloc _ _⟩
  by_cases c19 : k = 19
  · subst c19
    clear h1 h2
    by_cases zwi : wi = 0
    rotate_left
    · have zwib : (wi == 0) = false := beqF zwi
      have zwin : (wi != 0) = true := by simpa using zwi
      have HT : Hid (tabP 19 wi di xi n = false) := by show _ = _; rw [Bool.eq_false_iff]; intro h; simp [tabP, kindB, indexB, leastK, mostK] at h; omega
      go_enter Tryz.func51, Tryz.ntmps51
      go_wp2
      go_ret
      exact ⟨by rw [HT.out]; rfl, gr_alloc _ _⟩
    subst zwi
    by_cases d1 : di < 0
    · have HT : Hid (tabP 19 0 di xi n = false) := by show _ = _; rw [Bool.eq_false_iff]; intro h; simp [tabP, kindB, indexB, leastK, mostK] at h; omega
      go_enter Tryz.func51, Tryz.ntmps51
      go_wp2
      go_ret
      exact ⟨by rw [HT.out]; rfl, gr_alloc _ _⟩
    by_cases d2 : 31 < di
    · have HT : Hid (tabP 19 0 di xi n = false) := by show _ = _; rw [Bool.eq_false_iff]; intro h; simp [tabP, kindB, indexB, leastK, mostK] at h; omega
      go_enter Tryz.func51, Tryz.ntmps51
      go_wp2
      go_ret
      exact ⟨by rw [HT.out]; rfl, gr_alloc _ _⟩
    by_cases x1 : xi < 3
    · have HT : Hid (tabP 19 0 di xi n = false) := by show _ = _; rw [Bool.eq_false_iff]; intro h; simp [tabP, kindB, indexB, leastK, mostK] at h; omega
      go_enter Tryz.func51, Tryz.ntmps51
      go_wp2
      go_ret
      exact ⟨by rw [HT.out]; rfl, gr_alloc _ _⟩
    by_cases x2 : 10 < xi
    · have HT : Hid (tabP 19 0 di xi n = false) := by show _ = _; rw [Bool.eq_false_iff]; intro h; simp [tabP, kindB, indexB, leastK, mostK] at h; omega
      go_enter Tryz.func51, Tryz.ntmps51
      go_wp2
      go_ret
      exact ⟨by rw [HT.out]; rfl, gr_alloc _ _⟩
    by_cases nE : n = 1
    · have HT : Hid (tabP 19 0 di xi n = true) := by show _ = _; simp [tabP, kindB, indexB, leastK, mostK]; omega
      have hbq : ((n : Int) == 1) = true := by simp [nE]
      clear nE
      go_enter Tryz.func51, Tryz.ntmps51
      go_wp2
      go_ret
      exact ⟨by rw [HT.out]; rfl, gr_alloc _ _⟩
    have HT : Hid (tabP 19 0 di xi n = false) := by show _ = _; rw [Bool.eq_false_iff]; intro h; simp [tabP, kindB, indexB, leastK, mostK] at h; omega
    have hbq : ((n : Int) == 1) = false := beqF (by omega)
    clear nE
    go_enter Tryz.func51, Tryz.ntmps51
    go_wp2
    go_ret
    exact ⟨by rw [HT.out]; rfl, gr_alloc _ _⟩
  obtain ⟨hlo, hhi⟩ := low_K (k := k) (by omega) (by omega)
  have e14 : (k == 14) = false := beqF c14
  have e15 : (k == 15) = false := beqF c15
  have e16 : (k == 16) = false := beqF c16
  have e17 : (k == 17) = false := beqF c17
  have e18 : (k == 18) = false := beqF c18
  have e19 : (k == 19) = false := beqF c19
  have e20 : (k == 20) = false := beqF c20
  have e19n : (k != 19) = true := by simpa using c19
  by_cases zwi : wi = 0
  rotate_left
  · have zwib : (wi == 0) = false := beqF zwi
    have zwin : (wi != 0) = true := by simpa using zwi
    have HT : Hid (tabP k wi di xi n = false) := by show _ = _; rw [Bool.eq_false_iff]; intro h; simp [tabP, kindB, hlo, hhi, c14, c16, c19] at h; omega
    clear c14 c15 c16 c17 c18 c19 c20 hlo hhi
    go_enter Tryz.func51, Tryz.ntmps51
    go_wp2
    go_ret
    exact ⟨by rw [HT.out]; rfl, gr_alloc _ _⟩
  subst zwi
  by_cases zdi : di = 0
  rotate_left
  · have zdib : (di == 0) = false := beqF zdi
    have zdin : (di != 0) = true := by simpa using zdi
    have HT : Hid (tabP k 0 di xi n = false) := by show _ = _; rw [Bool.eq_false_iff]; intro h; simp [tabP, kindB, hlo, hhi, c14, c16, c19] at h; omega
    clear c14 c15 c16 c17 c18 c19 c20 hlo hhi
    go_enter Tryz.func51, Tryz.ntmps51
    go_wp2
    go_ret
    exact ⟨by rw [HT.out]; rfl, gr_alloc _ _⟩
  subst zdi
  by_cases zxi : xi = 0
  rotate_left
  · have zxib : (xi == 0) = false := beqF zxi
    have zxin : (xi != 0) = true := by simpa using zxi
    have HT : Hid (tabP k 0 0 xi n = false) := by show _ = _; rw [Bool.eq_false_iff]; intro h; simp [tabP, kindB, hlo, hhi, c14, c16, c19] at h; omega
    clear c14 c15 c16 c17 c18 c19 c20 hlo hhi
    go_enter Tryz.func51, Tryz.ntmps51
    go_wp2
    go_ret
    exact ⟨by rw [HT.out]; rfl, gr_alloc _ _⟩
  subst zxi
  have hb0 : ((n : Int) == 0) = decide (n = 0) := by rw [Bool.eq_iff_iff]; simp
  have HT : Hid (tabP k 0 0 0 n = decide (n = 0)) := by show _ = _; rw [Bool.eq_iff_iff]; simp [tabP, kindB, hlo, hhi, c14, c16, c19]; omega
  clear c14 c15 c16 c17 c18 c19 c20 hlo hhi
  go_enter Tryz.func51, Tryz.ntmps51
  go_wp2
  go_ret
  exact ⟨by rw [HT.out]; first | rfl | simp, gr_alloc _ _⟩
end Go.Proofs.YtdihbfjjddmbiaaGreatDoor.Kit
