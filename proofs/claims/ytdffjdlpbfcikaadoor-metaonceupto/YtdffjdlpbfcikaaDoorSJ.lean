import Derived.Test.YtdffjdlpbfcikaaDoorSI
namespace Go.Proofs.YtdffjdlpbfcikaaDoor.Kit
open Go.RowKit Go.Shelf Go.Deep
set_option linter.unusedVariables false

/-! ### Get of a head's bytes, of their beginnings, of more -/
theorem src_bytes {W : World} {bo : Option Addr} {bs : List UInt8} {cap : Nat} (h : BytesAt W bo bs) : Src Tryd.prog 1 22 (.slice bo bs.length cap) bs.length (bv bs) W := by
  by_cases hn : bs = []
  · subst hn
    cases bo with
    | none => exact Src.ofNil (w := W) Tryd.underlying22 cap
    | some a => exact Src.ofSlice (w := W) Tryd.underlying22 a 0 cap [] (by simp) (fun j x hx => by simp at hx) (fun x hx => by cases hx)
  · obtain ⟨b, o, rfl, hc⟩ := h hn
    refine Src.ofSlice (w := W) Tryd.underlying22 ⟨b, o, none⟩ bs.length cap (bv bs) (by simp [bv]) (fun j x hx => ?_) (fun x hx => by obtain ⟨z, _, rfl⟩ := List.mem_map.1 hx; rfl)
    have hj : j < bs.length := by
      have := (List.getElem?_eq_some_iff.1 hx).1
      simpa [bv] using this
    have e : x = .int .u8 ((bs[j]).toNat : Int) := by
      have := (List.getElem?_eq_some_iff.1 hx).2
      rw [← this]
      simp [bv]
    rw [e]
    have ea : (⟨b, o, none⟩ : Addr).add j = ⟨b, o + j, none⟩ := by
      by_cases h0 : j = 0
      · subst h0; simp [Addr.add]
      · simp [Addr.add, h0]
    rw [ea]
    exact hc j hj
theorem own_bytes {W : World} {v : Value} {n : Nat} {bs : List UInt8} (h : W.ownsRow 0 5 1 v n (bv bs)) (hn : n = bs.length) : ∃ bo cap, v = .slice bo bs.length cap ∧ BytesAt W bo bs ∧ SForm bo bs.length cap ∧ ∀ b o, bo = some ⟨b, o, none⟩ → b < W.heap.size := by
  subst hn
  rcases h.2 with ⟨rfl, h0⟩ | ⟨g, cap, cur, rfl, _, hg, h3, h4, h5, h6⟩
  · have : bs = [] := List.length_eq_zero_iff.1 h0
    subst this
    exact ⟨none, 0, rfl, fun h => absurd rfl h, ⟨Nat.le_refl _, by omega, .inl rfl⟩, fun b o e => by cases e⟩
  · refine ⟨_, cap, rfl, fun hn => ⟨g, 0, rfl, fun i hi => ?_⟩, ⟨h3, h4, .inr ⟨g, 0, rfl⟩⟩, fun b o e => ?_⟩
    · have := h.cellAt i (by omega)
      rw [Nat.zero_add, this]
      simp [bv, hi]
    · cases e
      exact lt_of_heap hg
theorem get_ok {V : World} {D : Nat} {k di rows pr : Int} {dl : Bool} {fs : List FT} {ns : List (ByteArray × ByteArray)} {nds : List (Int × Int)} {sls : List (Int × Int × Int)} (hT : Tab V) (hD : 65 ≤ D) (hDb : D ≤ big) (h1 : ns.length ≤ big) (h2 : nds.length ≤ big) (h3 : sls.length ≤ big) (hdp : deep D fs) (hok : HOk (Yes D fs ns) k fs.length ns.length di dl rows pr nds sls) {bo : Option Addr} {bc : Nat} (hb : BytesAt V bo (wholeB D k fs ns di dl rows pr nds sls)) (hf : SForm bo (wholeB D k fs ns di dl rows pr nds sls).length bc) (hlow : ∀ b o, bo = some ⟨b, o, none⟩ → b < V.heap.size) :
    Calls Tryd.prog 6 #[.slice bo (wholeB D k fs ns di dl rows pr nds sls).length bc] V fun e w' => ∃ fo no vo uo cf cn vc uc, e = .returned (.tuple #[.agg #[.int .i64 k, .slice fo fs.length cf, .slice no ns.length cn, .int .i64 di, .bool dl, .int .i64 rows, .int .i64 pr, .slice vo nds.length vc, .slice uo sls.length uc], .agg #[.int .i64 0, .slice none 0 0, .int .i64 0]]) ∧ HeadAt (fun b => b < w'.heap.size) D w' fo no vo uo cf fs ns nds sls ∧ Gr V w' := by
  obtain ⟨c, hc, hE⟩ := enc_head hdp hok
  have hz := enc_zero (more := []) hc hE
  rw [List.append_nil] at hz
  have hl := wholeB_len hdp hok
  refine Calls.mono (get6 bo _ bc (fun _ => true) V hb hf (by omega) hlow fun U V' hd s v hr gU gV hv => ?_) ?_
  · rw [hz] at hr
    cases hr
    exact may_read hv ((hT.gr gU).gr gV) hD hDb h1 h2 h3 hok
  · rintro e w' ⟨g, h⟩
    rw [get_whole hc hE rfl] at h
    obtain ⟨v, rfl, hv⟩ := h
    obtain ⟨hk, hi, hr, hp⟩ := hok_range hok
    obtain ⟨fo, no, vo, uo, cf, cn, vc, uc, rfl, hH⟩ := hv.head (hT.gr g) hD hDb h1 h2 h3 hk hi hr hp
    exact ⟨fo, no, vo, uo, cf, cn, vc, uc, rfl, hH, g⟩
theorem BytesAt.take {W : World} {bo : Option Addr} {bs : List UInt8} (h : BytesAt W bo bs) (n : Nat) : BytesAt W bo (bs.take n) := fun hn => by
  obtain ⟨b, o, e, hc⟩ := h (fun e => hn (by rw [e]; simp))
  refine ⟨b, o, e, fun i hi => ?_⟩
  have : i < bs.length := by simp at hi; omega
  rw [hc i this, List.getElem_take]
theorem get_short {V : World} {D : Nat} {k di rows pr : Int} {dl : Bool} {fs : List FT} {ns : List (ByteArray × ByteArray)} {nds : List (Int × Int)} {sls : List (Int × Int × Int)} (hT : Tab V) (hD : 65 ≤ D) (hDb : D ≤ big) (h1 : ns.length ≤ big) (h2 : nds.length ≤ big) (h3 : sls.length ≤ big) (hdp : deep D fs) (hok : HOk (Yes D fs ns) k fs.length ns.length di dl rows pr nds sls) {bo : Option Addr} {bc n : Nat} (hb : BytesAt V bo (wholeB D k fs ns di dl rows pr nds sls)) (hf : SForm bo (wholeB D k fs ns di dl rows pr nds sls).length bc) (hlow : ∀ b o, bo = some ⟨b, o, none⟩ → b < V.heap.size) (hn : n < (wholeB D k fs ns di dl rows pr nds sls).length) :
    Calls Tryd.prog 6 #[.slice bo n bc] V fun e w' => ∃ a : Nat, a ≤ n ∧ e = .returned (.tuple #[.agg #[.int .i64 0, .slice none 0 0, .slice none 0 0, .int .i64 0, .bool false, .int .i64 0, .int .i64 0, .slice none 0 0, .slice none 0 0], .agg #[.int .i64 51, .slice none 0 0, .int .i64 (a : Int)]]) ∧ Gr V w' := by
  obtain ⟨c, hc, hE⟩ := enc_head hdp hok
  have hl := wholeB_len hdp hok
  obtain ⟨a, ha, he⟩ := get_cut (Y := fun _ => true) hc hE hn
  have hlen : ((wholeB D k fs ns di dl rows pr nds sls).take n).length = n := by simp; omega
  have h6 := get6 bo ((wholeB D k fs ns di dl rows pr nds sls).take n) bc (fun _ => true) V (hb.take n) (by rw [hlen]; exact ⟨by have := hf.1; omega, hf.2⟩) (by omega) hlow fun U V' hd s v hr gU gV hv => by
    unfold getR at he
    rw [hr] at he
    dsimp only at he
    split at he
    · cases he
    · simp at he
  rw [hlen] at h6
  refine Calls.mono h6 ?_
  rintro e w' ⟨g, h⟩
  rw [he] at h
  exact ⟨a, ha, h, g⟩
theorem get_long {V : World} {D : Nat} {k di rows pr : Int} {dl : Bool} {fs : List FT} {ns : List (ByteArray × ByteArray)} {nds : List (Int × Int)} {sls : List (Int × Int × Int)} (hT : Tab V) (hD : 65 ≤ D) (hDb : D ≤ big) (h1 : ns.length ≤ big) (h2 : nds.length ≤ big) (h3 : sls.length ≤ big) (hdp : deep D fs) (hok : HOk (Yes D fs ns) k fs.length ns.length di dl rows pr nds sls) {bo : Option Addr} {bc : Nat} {M : List UInt8} (hb : BytesAt V bo (wholeB D k fs ns di dl rows pr nds sls ++ M)) (hf : SForm bo (wholeB D k fs ns di dl rows pr nds sls ++ M).length bc) (hlen : (wholeB D k fs ns di dl rows pr nds sls ++ M).length ≤ 1000000000000) (hlow : ∀ b o, bo = some ⟨b, o, none⟩ → b < V.heap.size) (hM : M ≠ []) :
    Calls Tryd.prog 6 #[.slice bo (wholeB D k fs ns di dl rows pr nds sls ++ M).length bc] V fun e w' => e = .returned (.tuple #[.agg #[.int .i64 0, .slice none 0 0, .slice none 0 0, .int .i64 0, .bool false, .int .i64 0, .int .i64 0, .slice none 0 0, .slice none 0 0], .agg #[.int .i64 52, .slice none 0 0, .int .i64 ((wholeB D k fs ns di dl rows pr nds sls).length : Int)]]) ∧ Gr V w' := by
  obtain ⟨c, hc, hE⟩ := enc_head hdp hok
  have hz := enc_zero (more := M) hc hE
  refine Calls.mono (get6 bo _ bc (fun _ => true) V hb hf hlen hlow fun U V' hd s v hr gU gV hv => ?_) ?_
  · rw [hz] at hr
    cases hr
    exact may_read hv ((hT.gr gU).gr gV) hD hDb h1 h2 h3 hok
  · rintro e w' ⟨g, h⟩
    rw [get_more hc hE hM] at h
    exact ⟨h, g⟩
end Go.Proofs.YtdffjdlpbfcikaaDoor.Kit
