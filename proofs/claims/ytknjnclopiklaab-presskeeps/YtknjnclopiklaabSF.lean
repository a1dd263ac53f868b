import Derived.Test.YtknjnclopiklaabSE
namespace Go.Proofs.Ytknjnclopiklaab.Kit
open Go.RowKit Go.Shelf Go.Deep
set_option linter.unusedVariables false
attribute [local go_sem] run_store_func

/-! ### the document's Pack, and the law -/
set_option maxRecDepth 100000 in
set_option maxHeartbeats 2000000 in
theorem packDoc_any {ao : Option Addr} {ca : Nat} {bs : List UInt8} {w : World} (how : Int) (h : BytesAt w ao bs) (hca : bs.length ≤ ca) (hl : bs.length ≤ 140737488355328) :
    Calls Try.prog 8 #[.int .i64 how, .slice ao bs.length ca] w fun e w' => ∃ vo vc n, e = .returned (.tuple #[.slice vo n vc, .int .i64 (packE how bs)]) ∧ Byts w w' vo vc n (packR how bs) := by
  obtain ⟨L, hL⟩ : ∃ L, L = bs.length := ⟨_, rfl⟩
  have HL := hidM hL
  rw [← hL] at hl ⊢
  by_cases c0 : howB how = true
  rotate_left
  · have c0' : howB how = false := by simpa using c0
    have HE : Hid (packE how bs = 1 ∧ packR how bs = []) := by
      have : packE how bs = 1 := by unfold packE; rw [if_pos c0']
      exact ⟨this, by unfold packR; rw [this]; rfl⟩
    have hd : how < 0 ∨ 2 < how := by unfold howB at c0'; simp at c0'; omega
    by_cases d1 : how < 0
    · clear h hca c0 c0' hL hd
      go_enter Try.func8, Try.ntmps8
      go_wp2_with fail
      refine bodyPost_ret (v := .tuple #[.slice none 0 0, .int .i64 1]) ?_ rfl ⟨none, 0, 0, by rw [HE.out.1], by rw [HE.out.2]; exact Byts.nil _ _ (Keeps.refl _ _)⟩
      simp [results, Try.f8, go_sem]
    · have d2 : 2 < how := by omega
      clear h hca c0 c0' hL hd
      go_enter Try.func8, Try.ntmps8
      go_wp2_with fail
      refine bodyPost_ret (v := .tuple #[.slice none 0 0, .int .i64 1]) ?_ rfl ⟨none, 0, 0, by rw [HE.out.1], by rw [HE.out.2]; exact Byts.nil _ _ (Keeps.refl _ _)⟩
      simp [results, Try.f8, go_sem]
  have d1 : ¬ how < 0 := by unfold howB at c0; simp at c0; omega
  have d2 : ¬ 2 < how := by unfold howB at c0; simp at c0; omega
  by_cases c1 : 65536 < L
  · have c1I : (65536 : Int) < (L : Int) := by omega
    have HE : Hid (packE how bs = 4 ∧ packR how bs = []) := by
      have : packE how bs = 4 := by unfold packE; rw [c0, if_neg (by decide), if_pos (by omega)]
      exact ⟨this, by unfold packR; rw [this]; rfl⟩
    clear h hca c0 hL
    go_enter Try.func8, Try.ntmps8
    go_wp2_with fail
    refine bodyPost_ret (v := .tuple #[.slice none 0 0, .int .i64 4]) ?_ rfl ⟨none, 0, 0, by rw [HE.out.1], by rw [HE.out.2]; exact Byts.nil _ _ (Keeps.refl _ _)⟩
    simp [results, Try.f8, go_sem]
  have c1I : ¬ (65536 : Int) < (L : Int) := by omega
  have HE : Hid (packE how bs = 0 ∧ packR how bs = packH how bs) := by
    have : packE how bs = 0 := by unfold packE; rw [c0, if_neg (by decide), if_neg (by omega)]
    exact ⟨this, by unfold packR; rw [this]; rfl⟩
  have hh : how = 0 ∨ how = 1 ∨ how = 2 := by omega
  clear d1 d2
  rcases hh with rfl | rfl | rfl
  · have hsrc := src_all (ca := ca) (h.gr (gr_alloc w (.cells #[] 5)))
    rw [← hL] at hsrc
    have HSrc := hidM hsrc
    clear h c0 hL hsrc
    go_enter Try.func8, Try.ntmps8
    go_wp2_with (at_builtin; refine Hid.out ?_)
    unfold Hid
    have hB0 : Byts w (w.alloc (.cells #[] 5)) (some ⟨w.heap.size, 0, none⟩) 0 0 [] := Byts.empty w
    refine wpList_append_any _ rfl (.tmp 26) (.tmp 27) 22 22 rfl 5 (.int .u8 0) 1 Try.underlying22 info5 rfl _ 0 (bv []) rfl hB0.own _ L (bv bs) rfl HSrc.out (by omega) (by omega) ?_
    intro v' w1 hown hgrow hblk
    obtain ⟨vo2, vc2, rfl⟩ := own_form1 hown
    have HN := hidM (hB0.app (us := bs) rfl hown hgrow hblk).b
    clear hown hgrow hblk hB0
    go_wp2_with fail
    refine bodyPost_ret (v := .tuple #[.slice vo2 (0 + L) vc2, .int .i64 0]) ?_ rfl ⟨vo2, vc2, 0 + L, by rw [HE.out.1], by rw [HE.out.2]; exact HN.out⟩
    simp [results, Try.f8, go_sem]
  · have HP := hidM (packRunsR_any (ca := ca) h hca (by omega))
    rw [← hL] at HP
    clear h c0 hL
    go_enter Try.func8, Try.ntmps8
    go_wp2_with (go_at_call 18; refine Hid.out ?_)
    unfold Hid
    refine Calls.mono HP.out ?_
    rintro e V ⟨vo, vc, n, rfl, hb⟩
    go_wp2_with fail
    refine bodyPost_ret (v := .tuple #[.slice vo n vc, .int .i64 0]) ?_ rfl ⟨vo, vc, n, by rw [HE.out.1], by rw [HE.out.2]; exact hb⟩
    simp [results, Try.f8, go_sem]
  · have HP := hidM (packBackR_any (ca := ca) h hca (by omega))
    rw [← hL] at HP
    clear h c0 hL
    go_enter Try.func8, Try.ntmps8
    go_wp2_with (go_at_call 19; refine Hid.out ?_)
    unfold Hid
    refine Calls.mono HP.out ?_
    rintro e V ⟨vo, vc, n, rfl, hb⟩
    go_wp2_with fail
    refine bodyPost_ret (v := .tuple #[.slice vo n vc, .int .i64 0]) ?_ rfl ⟨vo, vc, n, by rw [HE.out.1], by rw [HE.out.2]; exact hb⟩
    simp [results, Try.f8, go_sem]
/-! ### lists of bytes -/
structure BsD where
  ao : Option Addr
  bs : List UInt8
  ca : Nat
instance : Inhabited BsD := ⟨⟨none, [], 0⟩⟩
structure BsIn (W : World) (x : BsD) : Prop where
  cap : x.bs.length ≤ x.ca
  len : x.bs.length ≤ 140737488355328
  at_ : BytesAt W x.ao x.bs
def BssAt (W : World) (lo : Option Addr) (l : List BsD) : Prop :=
  l.length ≤ 1000000000000000 ∧ (l ≠ [] → ∃ b o, lo = some ⟨b, o, none⟩ ∧ ∀ i (h : i < l.length), W.cell? ⟨b, o + i, none⟩ = some (.slice l[i].ao l[i].bs.length l[i].ca) ∧ BsIn W l[i])
def HowsAt (W : World) (lo : Option Addr) (l : List Int) : Prop :=
  l.length ≤ 1000000000000000 ∧ (l ≠ [] → ∃ b o, lo = some ⟨b, o, none⟩ ∧ ∀ i (h : i < l.length), W.cell? ⟨b, o + i, none⟩ = some (.int .i64 l[i]))
end Go.Proofs.Ytknjnclopiklaab.Kit
