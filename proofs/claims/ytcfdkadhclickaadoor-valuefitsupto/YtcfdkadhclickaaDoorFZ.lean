import Derived.Test.YtcfdkadhclickaaDoorFY
import Derived.Test.YtcfdkadhclickaaDoorZV
namespace Go.Proofs.YtcfdkadhclickaaDoor.Kit
open Go.RowKit Go.Shelf Go.Deep
set_option linter.unusedVariables false

/-! ### ValueFits, of all fields and values in memory -/
theorem zA_ok {mb : Bool} {z : Int} {v : VT} (h : (zA mb z v).2 = 0) : mb = true ∧ z ≤ 4194304 ∧ (zA mb z v).1 = v := by
  unfold zA at h ⊢
  cases mb with
  | false => rw [if_pos rfl] at h; exact absurd h (by show ¬ (5 : Int) = 0; decide)
  | true =>
    rw [if_neg (by simp)] at h ⊢
    by_cases hz : z ≤ 4194304
    · rw [if_pos hz]; exact ⟨rfl, hz, rfl⟩
    · rw [if_neg hz] at h; exact absurd h (by show ¬ (3 : Int) = 0; decide)
theorem zA_else {mb : Bool} {z : Int} {v : VT} (h : ¬ (zA mb z v).2 = 0) : (zA mb z v).1 = .mk false 0 ⟨#[]⟩ [] := by
  unfold zA at h ⊢
  cases mb with
  | false => rw [if_pos rfl]
  | true =>
    rw [if_neg (by simp)] at h ⊢
    by_cases hz : z ≤ 4194304
    · rw [if_pos hz] at h; exact absurd rfl h
    · rw [if_neg hz]
/-- the zero value fits -/
theorem zero_fits {D : Nat} {f : FT} (h1 : okF (D + 1) f) (h2 : okN (D + 1) f) (h3 : okD (D + 1) f) (hz : zW (D + 1) f ≤ 4194304) : fitB D f (zV (D + 1) f) = true := by
  unfold fitB
  rw [weigh_doc (zV_deep (D + 1) f) (by decide), zV_weight _ f h1 hz, zV_doc _ f h1 h2 h3, decide_eq_true hz]
  rfl
/-- of a zero value there are few lists -/
theorem zero_cnt {D : Nat} {f : FT} {mb : Bool} (h1 : mb = true → okF (D + 1) f) : cnt (D + 1) (zA mb (zW (D + 1) f) (zV (D + 1) f)).1.list ≤ 400000000 := by
  by_cases h : (zA mb (zW (D + 1) f) (zV (D + 1) f)).2 = 0
  · obtain ⟨e, hz, hv⟩ := zA_ok h
    rw [hv]
    have := cnt_le (D + 1) (zV (D + 1) f)
    rw [zV_weight _ f (h1 e) hz] at this
    omega
  · rw [zA_else h]
    show cnt (D + 1) [] ≤ _
    simp [cnt]
section
variable {w : World} {D d : Nat} {f : FT} {ao : Option Addr} {ca : Nat} {mb : Bool} {v : VT} {uo : Option Addr} {uc : Nat}
theorem fa_again (hT : Tab w) (hU : Lib.Utf8Tabs 1 2 w) (hD : D + 3 ≤ big) (hf : RowAt (fun b => b < w.heap.size) w D ao f.kids) (hF : FldB w D f ao ca mb) {V : World} {gb tb lo hi lo' hi' : Nat} (hg : Gr w V) (hlo : w.heap.size ≤ lo) (hhl : hi ≤ lo') (hh : hi' ≤ V.heap.size) (hv : VOk v)
    (hC : CRow V (D + 1) lo hi (some ⟨gb, 0, none⟩) f.kids) (ht : TRow V (d + 1) lo' hi' (some ⟨tb, 0, none⟩) v.list) (hG : FldB V D f (some ⟨gb, 0, none⟩) f.kids.length mb) :
    ∀ W, Gr V W → Calls Tryd.prog 17 #[.agg #[.string f.name, .bool f.nul, .int .i64 f.kind, .int .i64 f.width, .int .i64 f.id, .int .i64 f.index, .slice (some ⟨gb, 0, none⟩) f.kids.length f.kids.length], .agg #[.bool v.nul, .int .i64 v.num, .string v.text, .slice (some ⟨tb, 0, none⟩) v.list.length (v.list.length + 2)], .agg #[.string f.name, .bool f.nul, .int .i64 f.kind, .int .i64 f.width, .int .i64 f.id, .int .i64 f.index, .slice ao f.kids.length ca]] W fun e w' => e = .returned (.bool true) ∧ Keeps W w' (fun z => w.heap.size ≤ z) := by
  have hlt := ht.lt
  have hgs := hg.size
  have hTv : ValB V (d + 1) v (some ⟨tb, 0, none⟩) := twin_val ht hh hv
  have hgb : lo ≤ gb ∧ gb < hi := by obtain ⟨b, cur, e, h1, h2, _⟩ := hC; cases e; exact ⟨h1, h2⟩
  have h40 := eqf_any _ V (fun _ h => h) D f (some ⟨gb, 0, none⟩) ao f.kids.length ca hG.row ((hF.gr hg).row)
  intro W g
  refine Calls.mono (again17 f.name f.nul f.kind f.width f.id f.index gb ao f.kids.length ca v.nul v.num v.text tb v.list.length V lo' hi' (fitE mb (fitB D f v)) ⟨hf.len, hh, by omega⟩ h40 (hG.fits6 hTv) ((hF.gr hg).fits7 hTv) (fun W1 g1 => ?_) W g) ?_
  · have hgs1 := g1.size
    refine Calls.mono (turn_any (d + 1) W1 lo' hi' _ _ (ht.kept fun c _ h2 => g1.block c (by omega) id) (by omega)) ?_
    rintro e w' ⟨rfl, hk, l', hl, hr⟩
    refine ⟨rfl, hk, ?_⟩
    have hks := hk.size
    have gw : Gr w w' := (hg.trans g1 (fun _ _ h => h)).trans hk (fun j hj h => by omega)
    have hc' : CRow w' (D + 1) lo hi (some ⟨gb, 0, none⟩) f.kids := (hC.kept fun c _ h2 => g1.block c (by omega) id).kept fun c _ h2 => hk.block c (by omega) (by omega)
    have hv' : ValB w' (d + 1) (.mk v.nul v.num v.text l') (some ⟨tb, 0, none⟩) := turned_val hr (by omega) hv
    have := ag2 (D := D + 1) (d := d + 1) (v := .mk v.nul v.num v.text l') hT hU gw hD hc' hlo (by omega) hv' (fun V' W' g' tg => by
      have s1 := g'.size
      have s2 := tg.kp.size
      exact ⟨hv, ((hr.kept fun c q => g'.block c (by omega) id).kept fun c q => tg.kp.block c (by omega) (by omega)).wide fun c q => by omega⟩)
    rw [← hl]
    exact this
  · rintro e w' ⟨rfl, hk⟩
    exact ⟨rfl, hk.mono fun z _ h => by omega⟩
theorem fits_any (hT : Tab w) (hU : Lib.Utf8Tabs 1 2 w) (hf : RowAt (fun b => b < w.heap.size) w D ao f.kids) (hca : f.kids.length ≤ ca) (hD : D + 3 ≤ big) (hv : ValB w d v uo) :
    Calls Tryd.prog 3 #[.agg #[.string f.name, .bool f.nul, .int .i64 f.kind, .int .i64 f.width, .int .i64 f.id, .int .i64 f.index, .slice ao f.kids.length ca], .agg #[.bool v.nul, .int .i64 v.num, .string v.text, .slice uo v.list.length uc]] w fun e w' => e = .returned (.bool true) ∧ Gr w w' := by
  obtain ⟨mb, hF, hiff, hokD⟩ := fld_iff hT hU hf hca (by omega)
  have hf0 : RowAt (fun b => b < w.heap.size) w 0 none boolF.kids := rfl
  obtain ⟨mk, hK, kA⟩ := fld_both (ca := 0) hT hU hf0 (by decide) (by decide)
  obtain rfl : mk = true := kA bool_all
  have o2 : ValB w 0 (.mk false 2 ⟨#[]⟩ []) none := ⟨⟨by decide, by decide⟩, rfl⟩
  have K1 := hK.fits6 (uc := 0) o2
  rw [show fitE true (fitB 0 boolF (.mk false 2 ⟨#[]⟩ [])) = 7 by decide +kernel] at K1
  refine law3_walk f v (zA mb (zW (D + 1) f) (zV (D + 1) f)).1 ao uo ca uc w (D + 1) (D + 1) (d + 1) (fitE mb (fitB D f v)) (zA mb (zW (D + 1) f) (zV (D + 1) f)).2 _ K1 (hF.fits7 hv) (hF.fits6 hv) hv.heavy (own9 hf hca) (twin_any _ w (fun _ h => h) d v uo uc hv.row) (fun V go gc few tb lo hi lo' hi' hg hlo hhl hh hfew ht => ?_)
  have hT' := hT.gr hg
  have hU' := Utf8Tabs_below hU (Keeps.below hg (fun _ _ h => h.elim) (Nat.le_refl _))
  have hlt := ht.lt
  have hG : FldB V D f go gc mb := by
    rcases hfew with ⟨_, rfl, rfl⟩ | ⟨_, rfl, hC⟩
    · exact hF.gr hg
    · have hr : RowAt (fun b => b < V.heap.size) V D go f.kids := RowAt.low hf.deep (hC.row.mono fun z hz => by omega)
      obtain ⟨mb', hF', hiff', _⟩ := fld_iff (f := f) (ca := f.kids.length) hT' hU' hr (Nat.le_refl _) (by omega)
      have : mb' = mb := by
        cases mb' <;> cases mb <;> simp_all
      rw [← this]
      exact hF'
  have hTv : ValB V (d + 1) v (some ⟨tb, 0, none⟩) := twin_val ht hh hv.ok
  refine ⟨hG.fits6 hTv, stays_any _ V (fun _ h => h) d v lo' hi' _ uo uc ht (hv.gr hg).row, (hF.gr hg).zero12, hG.zero13, fun he W lo2 hi2 o c gW hs hz => ?_, zero_cnt fun e => (hF.ok e).1, fun hfe => ?_⟩
  · obtain ⟨e, hzw, hzv⟩ := zA_ok he
    rw [hzv] at hz ⊢
    have hok := hF.ok e
    have hz' : ValB W (D + 1) (zV (D + 1) f) o := ⟨zV_ok _ f hok.1, hz.row.wide fun z q => by omega⟩
    have := (hG.gr gW).fits6 (uc := c) hz'
    rw [zero_fits hok.1 hok.2 (hokD e) hzw, e] at this
    exact this
  · rcases hfew with ⟨h0, _, _⟩ | ⟨_, rfl, hC⟩
    · rw [h0] at hfe; cases hfe
    · obtain ⟨gb, cur, rfl, _⟩ := id hC
      exact fa_again hT hU hD hf hF hg hlo hhl hh hv.ok hC ht hG
end
end Go.Proofs.YtcfdkadhclickaaDoor.Kit
