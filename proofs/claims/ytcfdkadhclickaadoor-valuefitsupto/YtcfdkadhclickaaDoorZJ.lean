import Derived.Test.YtcfdkadhclickaaDoorZH
namespace Go.Proofs.YtcfdkadhclickaaDoor.Kit
open Go.RowKit Go.Shelf Go.Deep
set_option linter.unusedVariables false

/-! ### zero and zeroOf of all fields that may be -/
theorem ZeC.more {F : Nat} {w : World} {fv : Value} {D E : Nat} {v : VT} (h : ZeC F w fv D v) (hd : D ≤ E) : ZeC F w fv E v := fun W g => by
  refine Calls.mono (h W g) ?_
  rintro e w' ⟨o, c, rfl, h1, h2⟩
  exact ⟨o, c, rfl, h1, h2.more hd⟩
theorem zV_ok : ∀ (n : Nat) (f : FT), okF n f → VOk (zV n f)
  | 0, f, h => h.elim
  | n + 1, f, h => by
    have z0 : ∀ (b : Bool) (l : List VT), VOk (.mk b 0 ⟨#[]⟩ l) := fun b l => ⟨by simp [VT.num, is64], Nat.zero_le _⟩
    rw [zV, zVB]
    split
    · exact z0 _ _
    split
    · rename_i k
      have := width14 h.1 k
      refine ⟨by simp [VT.num, is64], ?_⟩
      show (zT f.width.toNat).size ≤ 1000000000000
      rw [zT_size]
      omega
    split
    · exact z0 _ _
    split
    · exact z0 _ _
    split
    · exact z0 _ _
    split
    · rename_i k
      exact zV_ok n _ (h.2 _ (head_mem (kid_ne h.1 (.inr (.inr k)))))
    · exact z0 _ _
theorem zr_step (S : Nat → Prop) (D : Nat) (w : World) (hS : ∀ b, S b → b < w.heap.size) (f : FT) (ao : Option Addr) (ca DD : Nat) (zz : FT → VT) (hf : RowAt S w (D + 1) ao f.kids) (hT : tableB f = true) (hN : nullB f = true) (hoks : ∀ k ∈ f.kids, VOk (zz k))
    (hkid : ∀ (g : FT) (go : Option Addr) (gc : Nat), g ∈ f.kids → g.kids.length ≤ gc → RowAt S w D go g.kids → ZeC 36 w (.agg #[.string g.name, .bool g.nul, .int .i64 g.kind, .int .i64 g.width, .int .i64 g.id, .int .i64 g.index, .slice go g.kids.length gc]) DD (zz g)) :
    ZeC 36 w (.agg #[.string f.name, .bool f.nul, .int .i64 f.kind, .int .i64 f.width, .int .i64 f.id, .int .i64 f.index, .slice ao f.kids.length ca]) (DD + 1) (zVB zz f) := by
  have kid : f.kids ≠ [] → ∃ kb ko, ao = some ⟨kb, ko, none⟩ ∧ ∃ go gc, CellsAt w kb ko f.kids.head! go gc ∧ f.kids.head!.kids.length ≤ gc ∧ RowAt S w D go f.kids.head!.kids := by
    intro hne
    obtain ⟨h0, he⟩ := head_get hne
    obtain ⟨kb, ko, rfl, hb, hi⟩ := hf.2 hne
    obtain ⟨go, gc, hc, hle, hrow⟩ := hi 0 h0
    rw [he h0] at hc hle hrow
    simp only [Nat.zero_mul, Nat.add_zero] at hc
    exact ⟨kb, ko, rfl, go, gc, hc, hle, hrow⟩
  unfold zVB
  by_cases h1 : f.nul = true
  · rw [if_pos h1, h1]
    exact zr_nul _ _ _ _ _ _ _ _ w _
  rw [if_neg h1]
  have h1' : f.nul = false := by simpa using h1
  rw [h1']
  by_cases h2 : f.kind = 14
  · rw [if_pos h2, h2]
    have := width14 hT h2
    exact zr14 _ _ _ _ _ _ _ w _ this.1 this.2
  rw [if_neg h2]
  by_cases h3 : f.kind = 16
  · rw [if_pos h3, h3]
    have hne := kid_ne hT (.inl h3)
    obtain ⟨kb, ko, rfl, go, gc, hc, hle, hrow⟩ := kid hne
    exact zr16 _ _ _ _ _ _ w _ _ _ _ _ _ _ _ _ _ _ _ _ (hoks _ (head_mem hne)) (width16 hT h3) (head_get hne).1 hc.c0 hc.c1 hc.c2 hc.c3 hc.c4 hc.c5 hc.c6 (hkid _ _ _ (head_mem hne) hle hrow)
  rw [if_neg h3]
  by_cases h4 : f.kind = 17
  · rw [if_pos h4, h4]
    exact zr17 S D w hS _ _ _ _ ao ca f.kids zz DD hf hoks (fun k hk go gc hle hrow => hkid _ _ _ (List.getElem_mem hk) hle hrow)
  rw [if_neg h4]
  by_cases h5 : f.kind = 18
  · rw [if_pos h5, h5]
    have hne := kid_ne hT (.inr (.inl h5))
    obtain ⟨kb, ko, rfl, go, gc, hc, hle, hrow⟩ := kid hne
    exact zr18 _ _ _ _ _ _ w _ _ _ _ _ _ _ _ _ _ _ _ _ (hoks _ (head_mem hne)) (head_get hne).1 hc.c0 hc.c1 hc.c2 hc.c3 hc.c4 hc.c5 hc.c6 (hkid _ _ _ (head_mem hne) hle hrow)
  rw [if_neg h5]
  by_cases h6 : f.kind = 19 ∨ f.kind = 20
  · rw [if_pos h6]
    have hne := kid_ne hT (.inr (.inr h6))
    obtain ⟨kb, ko, rfl, go, gc, hc, hle, hrow⟩ := kid hne
    have hF := hkid _ _ _ (head_mem hne) hle hrow
    rcases h6 with k | k
    · rw [k]
      exact (zr19 _ _ _ _ _ _ w _ _ _ _ _ _ _ _ _ _ _ _ _ (head_get hne).1 hc.c0 hc.c1 hc.c2 hc.c3 hc.c4 hc.c5 hc.c6 hF).more (Nat.le_succ _)
    · rw [k]
      exact (zr20 _ _ _ _ _ _ w _ _ _ _ _ _ _ _ _ _ _ _ _ (head_get hne).1 hc.c0 hc.c1 hc.c2 hc.c3 hc.c4 hc.c5 hc.c6 hF).more (Nat.le_succ _)
  rw [if_neg h6]
  exact zr_else _ _ _ _ _ _ _ _ w _ (by omega)
/-- all depths -/
theorem zr_any (S : Nat → Prop) (w : World) (hS : ∀ b, S b → b < w.heap.size) : ∀ (D : Nat) (f : FT) (ao : Option Addr) (ca : Nat), RowAt S w D ao f.kids → okF (D + 1) f → okN (D + 1) f → ZeC 36 w (.agg #[.string f.name, .bool f.nul, .int .i64 f.kind, .int .i64 f.width, .int .i64 f.id, .int .i64 f.index, .slice ao f.kids.length ca]) (D + 1) (zV (D + 1) f)
  | 0, f, ao, ca, hf, ho, hn => by
    have hk : f.kids = [] := hf
    exact zr_step S 0 w hS f ao ca 0 (zV 0) (hf.more (by omega)) ho.1 hn.1 (fun k hk' => by rw [hk] at hk'; cases hk') (fun g go gc hg => by rw [hk] at hg; cases hg)
  | D + 1, f, ao, ca, hf, ho, hn =>
    zr_step S D w hS f ao ca (D + 1) (zV (D + 1)) hf ho.1 hn.1 (fun k hk => zV_ok _ k (ho.2 k hk)) (fun g go gc hg hle hrow => zr_any S w hS D g go gc hrow (ho.2 g hg) (hn.2 g hg))
theorem dz_step (S : Nat → Prop) (D : Nat) (w : World) (hS : ∀ b, S b → b < w.heap.size) (f : FT) (ao : Option Addr) (ca DD : Nat) (zz : FT → VT) (hf : RowAt S w (D + 1) ao f.kids) (hT : tableB f = true) (hN : nullB f = true) (hoks : ∀ k ∈ f.kids, VOk (zz k)) (hzn : ∀ k ∈ f.kids, k.nul = true → zz k = .mk true 0 ⟨#[]⟩ [])
    (hkid : ∀ (g : FT) (go : Option Addr) (gc : Nat), g ∈ f.kids → g.kids.length ≤ gc → RowAt S w D go g.kids → ZeC 34 w (.agg #[.string g.name, .bool g.nul, .int .i64 g.kind, .int .i64 g.width, .int .i64 g.id, .int .i64 g.index, .slice go g.kids.length gc]) DD (zz g)) :
    ZeC 34 w (.agg #[.string f.name, .bool f.nul, .int .i64 f.kind, .int .i64 f.width, .int .i64 f.id, .int .i64 f.index, .slice ao f.kids.length ca]) (DD + 1) (zVB zz f) := by
  have kid : f.kids ≠ [] → ∃ kb ko, ao = some ⟨kb, ko, none⟩ ∧ ∃ go gc, CellsAt w kb ko f.kids.head! go gc ∧ f.kids.head!.kids.length ≤ gc ∧ RowAt S w D go f.kids.head!.kids := by
    intro hne
    obtain ⟨h0, he⟩ := head_get hne
    obtain ⟨kb, ko, rfl, hb, hi⟩ := hf.2 hne
    obtain ⟨go, gc, hc, hle, hrow⟩ := hi 0 h0
    rw [he h0] at hc hle hrow
    simp only [Nat.zero_mul, Nat.add_zero] at hc
    exact ⟨kb, ko, rfl, go, gc, hc, hle, hrow⟩
  unfold zVB
  by_cases h1 : f.nul = true
  · rw [if_pos h1]
    by_cases h20 : f.kind = 20
    · have hne := kid_ne hT (.inr (.inr (.inr h20)))
      obtain ⟨kb, ko, rfl, go, gc, hc, hle, hrow⟩ := kid hne
      have hkn : f.kids.head!.nul = true := by
        have := hN
        unfold nullB at this
        rw [if_neg (by omega), if_neg (by omega), if_pos h20] at this
        have e : (f.kids[0]?.map FT.nul).getD false = f.kids.head!.nul := kid0_head hne
        rw [e, h1] at this
        cases hh : f.kids.head!.nul with
        | true => rfl
        | false => rw [hh] at this; cases this
      have hF := hkid _ _ _ (head_mem hne) hle hrow
      rw [hzn _ (head_mem hne) hkn] at hF
      rw [h20]
      exact (dz20 f.nul f.name f.width f.id f.index f.kids.length ca w DD kb ko _ _ _ _ _ _ _ _ _ _ (head_get hne).1 hc.c0 hc.c1 hc.c2 hc.c3 hc.c4 hc.c5 hc.c6 hF).more (Nat.le_succ _)
    · rw [h1]
      exact dz_nul _ _ _ _ _ _ _ _ w _ (by simp [h20])
  rw [if_neg h1]
  have h1' : f.nul = false := by simpa using h1
  rw [h1']
  by_cases h2 : f.kind = 14
  · rw [if_pos h2, h2]
    have := width14 hT h2
    exact dz14 _ _ _ _ _ _ _ w _ this.1 this.2
  rw [if_neg h2]
  by_cases h3 : f.kind = 16
  · rw [if_pos h3, h3]
    have hne := kid_ne hT (.inl h3)
    obtain ⟨kb, ko, rfl, go, gc, hc, hle, hrow⟩ := kid hne
    exact dz16 _ _ _ _ _ _ w _ _ _ _ _ _ _ _ _ _ _ _ _ (hoks _ (head_mem hne)) (width16 hT h3) (head_get hne).1 hc.c0 hc.c1 hc.c2 hc.c3 hc.c4 hc.c5 hc.c6 (hkid _ _ _ (head_mem hne) hle hrow)
  rw [if_neg h3]
  by_cases h4 : f.kind = 17
  · rw [if_pos h4, h4]
    exact dz17 S D w hS _ _ _ _ ao ca f.kids zz DD hf hoks (fun k hk go gc hle hrow => hkid _ _ _ (List.getElem_mem hk) hle hrow)
  rw [if_neg h4]
  by_cases h5 : f.kind = 18
  · rw [if_pos h5, h5]
    have hne := kid_ne hT (.inr (.inl h5))
    obtain ⟨kb, ko, rfl, go, gc, hc, hle, hrow⟩ := kid hne
    exact dz18 _ _ _ _ _ _ w _ _ _ _ _ _ _ _ _ _ _ _ _ (hoks _ (head_mem hne)) (head_get hne).1 hc.c0 hc.c1 hc.c2 hc.c3 hc.c4 hc.c5 hc.c6 (hkid _ _ _ (head_mem hne) hle hrow)
  rw [if_neg h5]
  by_cases h6 : f.kind = 19 ∨ f.kind = 20
  · rw [if_pos h6]
    have hne := kid_ne hT (.inr (.inr h6))
    obtain ⟨kb, ko, rfl, go, gc, hc, hle, hrow⟩ := kid hne
    have hF := hkid _ _ _ (head_mem hne) hle hrow
    rcases h6 with k | k
    · rw [k]
      exact (dz19 _ _ _ _ _ _ w _ _ _ _ _ _ _ _ _ _ _ _ _ (head_get hne).1 hc.c0 hc.c1 hc.c2 hc.c3 hc.c4 hc.c5 hc.c6 hF).more (Nat.le_succ _)
    · rw [k]
      exact (dz20 _ _ _ _ _ _ _ w _ _ _ _ _ _ _ _ _ _ _ _ _ (head_get hne).1 hc.c0 hc.c1 hc.c2 hc.c3 hc.c4 hc.c5 hc.c6 hF).more (Nat.le_succ _)
  rw [if_neg h6]
  exact dz_else _ _ _ _ _ _ _ _ w _ (by omega)
/-- all depths -/
theorem dz_any (S : Nat → Prop) (w : World) (hS : ∀ b, S b → b < w.heap.size) : ∀ (D : Nat) (f : FT) (ao : Option Addr) (ca : Nat), RowAt S w D ao f.kids → okF (D + 1) f → okN (D + 1) f → ZeC 34 w (.agg #[.string f.name, .bool f.nul, .int .i64 f.kind, .int .i64 f.width, .int .i64 f.id, .int .i64 f.index, .slice ao f.kids.length ca]) (D + 1) (zV (D + 1) f)
  | 0, f, ao, ca, hf, ho, hn => by
    have hk : f.kids = [] := hf
    exact dz_step S 0 w hS f ao ca 0 (zV 0) (hf.more (by omega)) ho.1 hn.1 (fun k hk' => by rw [hk] at hk'; cases hk') (fun k hk' => by rw [hk] at hk'; cases hk') (fun g go gc hg => by rw [hk] at hg; cases hg)
  | D + 1, f, ao, ca, hf, ho, hn =>
    dz_step S D w hS f ao ca (D + 1) (zV (D + 1)) hf ho.1 hn.1 (fun k hk => zV_ok _ k (ho.2 k hk)) (fun k hk h => by rw [zV, zVB, if_pos h]) (fun g go gc hg hle hrow => dz_any S w hS D g go gc hrow (ho.2 g hg) (hn.2 g hg))
end Go.Proofs.YtcfdkadhclickaaDoor.Kit
