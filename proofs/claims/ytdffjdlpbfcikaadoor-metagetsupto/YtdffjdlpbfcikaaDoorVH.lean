import Derived.Test.YtdffjdlpbfcikaaDoorVG
namespace Go.Proofs.YtdffjdlpbfcikaaDoor.Kit
open Go.RowKit Go.Shelf Go.Deep
set_option linter.unusedVariables false
attribute [local go_sem] run_store_func

theorem mayG_bound {g : FT → Nat × List Int → Option (Nat × List Int)} (hg : ∀ x st st', st.2.length ≤ st.1 → g x st = some st' → st'.1 ≤ 256 ∧ st'.2.length ≤ st'.1) {inD : Bool} {dp : Nat} {f : FT} {st st' : Nat × List Int} (hl : st.2.length ≤ st.1) (h : mayG g inD dp f st = some st') : st'.1 ≤ 256 ∧ st'.2.length ≤ st'.1 := by
  unfold mayG at h
  split at h
  · rename_i hh
    rw [Bool.and_eq_true, headB_iff] at hh
    refine mayK_bound hg f.kids (st.1 + 1, idsA f st.2) st' hh.1.2.1 ?_ h
    show (idsA f st.2).length ≤ st.1 + 1
    unfold idsA
    split
    · simp; omega
    · omega
  · cases h
theorem mayF_bound : ∀ (d : Nat) (inD : Bool) (dp : Nat) (f : FT) (st st' : Nat × List Int), st.2.length ≤ st.1 → mayF d inD dp f st = some st' → st'.1 ≤ 256 ∧ st'.2.length ≤ st'.1
  | 0, inD, dp, f, st, st', hl, h => mayG_bound (fun x s s' _ h => by cases h) hl h
  | d + 1, inD, dp, f, st, st', hl, h => mayG_bound (fun x s s' hs h => mayF_bound d _ _ x s s' hs h) hl h
/-- the document's (*seen).field -/
theorem seenField_any (S : Nat → Prop) (K : Nat) : ∀ (d : Nat) (f : FT) (ao : Option Addr) (ca : Nat) (inD : Bool) (dp : Nat) (w : World), RowAt S w d ao f.kids → (∀ b, S b → b < w.heap.size) → dp ≤ 1000 →
    ∀ W nd ids, Seen w W K nd ids → nd ≤ 256 → ids.length ≤ nd → Calls Tryd.prog 51 #[.pointer (some ⟨K, 0, none⟩), .agg #[.string f.name, .bool f.nul, .int .i64 f.kind, .int .i64 f.width, .int .i64 f.id, .int .i64 f.index, .slice ao f.kids.length ca], .int .i64 (dp : Int), .bool inD] W (MayQ w W K (mayF d inD dp f (nd, ids)))
  | 0, f, ao, ca, inD, dp, w, hr, hS, hdp => by
    have hk : f.kids = [] := hr
    exact seenField_walk f ao ca K (fun _ _ _ => none) inD dp w S 0 hr hS hdp (fun _ x s s' _ h => by cases h) (by rw [hk]; simp) (fun hne => absurd hk hne)
  | d + 1, f, ao, ca, inD, dp, w, hr, hS, hdp => by
    refine seenField_walk f ao ca K (fun ind => mayF d ind (dp + 1)) inD dp w S (d + 1) hr hS hdp (fun ind x s s' hs h => mayF_bound d _ _ x s s' hs h) hr.1 (fun hne => ?_)
    obtain ⟨b, o, e, hb, hc⟩ := hr.2 hne
    refine ⟨b, o, e, fun i hi => ?_⟩
    obtain ⟨ao', ca', h1, h2, h3⟩ := hc i hi
    refine ⟨ao', ca', h1, fun ind W nd ids hs hn hl hd => ?_⟩
    have := seenField_any S K d f.kids[i] ao' ca' ind (dp + 1) w h3 hS (by omega) W nd ids hs hn hl
    rw [Int.natCast_add] at this
    exact this
theorem lists_iff {nf : Nat} {l : List (ByteArray × ByteArray)} : (listsE nf l).1 = 0 ↔ nf ≤ 32 ∧ l.length ≤ 16 ∧ ∀ n ∈ l, noteBad n = false := by
  unfold listsE
  constructor
  · intro h
    split at h
    · simp at h
    split at h
    · simp at h
    split at h
    · simp at h
    rename_i h0 h1 h2
    refine ⟨by omega, by omega, fun n hn => ?_⟩
    cases hc : noteBad n with
    | false => rfl
    | true => exact absurd (List.findIdx_lt_length_of_exists ⟨n, hn, hc⟩) h2
  · rintro ⟨h1, h2, h3⟩
    rw [if_neg (by omega), if_neg (by omega), if_neg]
    intro h
    have := List.findIdx_getElem (w := h)
    rw [h3 _ (List.getElem_mem h)] at this
    cases this
end Go.Proofs.YtdffjdlpbfcikaaDoor.Kit
