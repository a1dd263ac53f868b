import Derived.Test.YtdffjdlpbfcikaaDoorSH
import Derived.Test.YtdffjdlpbfcikaaDoorWB
namespace Go.Proofs.YtdffjdlpbfcikaaDoor.Kit
open Go.RowKit Go.Shelf Go.Deep
set_option linter.unusedVariables false

/-! ### a head that was read lies as any other does -/
theorem flatS {α : Type} (c : α → List Value) (s : Nat) (hc : ∀ x, (c x).length = s) : ∀ (l : List α) (i : Nat) (h : i < l.length) (j : Nat), j < s → (l.flatMap c)[i * s + j]? = (c l[i])[j]?
  | e :: l, 0, h, j, hj => by
    rw [List.flatMap_cons, List.getElem?_append_left (by rw [hc]; omega)]
    simp
  | e :: l, i + 1, h, j, hj => by
    have h1 : (i + 1) * s + j - s = i * s + j := by rw [Nat.succ_mul]; omega
    rw [List.flatMap_cons, List.getElem?_append_right (by rw [hc, Nat.succ_mul]; omega)]
    have := flatS c s hc l i (by simpa using h) j hj
    rw [hc, h1, this]
    simp
theorem LAt.cells {α : Type} {W w' : World} {t s : Nat} {c : α → List Value} {l : List α} {vo : Option Addr} {vc : Nat} (h : LAt W w' t s c l vo vc) (hc : ∀ x, (c x).length = s) (hs : 0 < s) (hn : l ≠ []) : ∃ g, vo = some ⟨g, 0, none⟩ ∧ ∀ i (hi : i < l.length) j, j < s → w'.cell? ⟨g, i * s + j, none⟩ = (c l[i])[j]? := by
  have h0 := List.length_pos_iff.2 hn
  rcases h.own.2 with ⟨e, h1⟩ | ⟨g, cap, cur, e, h1, h2, h3, h4⟩
  · omega
  · cases e
    refine ⟨g, rfl, fun i hi j hj => ?_⟩
    have hlt : i * s + j < l.length * s := by
      have : (i + 1) * s ≤ l.length * s := Nat.mul_le_mul_right s hi
      rw [Nat.succ_mul] at this
      omega
    rw [h.own.cellAt (i * s + j) hlt, flatS c s hc l i hi j hj]
theorem HV9.head {U V : World} {D : Nat} {k di rows pr : Int} {dl : Bool} {fs : List FT} {ns : List (ByteArray × ByteArray)} {nds : List (Int × Int)} {sls : List (Int × Int × Int)} {v : Value} (hv : HV9 U V (hdOf k fs ns di dl rows pr nds sls) v) (hT : Tab V) (hD : 65 ≤ D) (hDb : D ≤ big) (h1 : ns.length ≤ big) (h2 : nds.length ≤ big) (h3 : sls.length ≤ big) (hk : 0 ≤ k) (hi : 0 ≤ di) (hr : 0 ≤ rows) (hp : 0 ≤ pr) :
    ∃ fo no vo uo cf cn vc uc, v = .agg #[.int .i64 k, .slice fo fs.length cf, .slice no ns.length cn, .int .i64 di, .bool dl, .int .i64 rows, .int .i64 pr, .slice vo nds.length vc, .slice uo sls.length uc] ∧ HeadAt (fun b => b < V.heap.size) D V fo no vo uo cf fs ns nds sls := by
  obtain ⟨fo, fc, no, nc, vo, vc, uo, uc, rfl, hcap, hrow, hns, hnd, hsl⟩ := hv
  refine ⟨fo, no, vo, uo, fc, nc, vc, uc, ?_, hT, (hrow.mono fun b hb => hb.2).more hD, hcap, hDb, fun b h => h, ⟨h1, fun hn => ?_⟩, ⟨h2, fun hn => ?_⟩, ⟨h3, fun hn => ?_⟩⟩
  · have a1 : (k.toNat : Int) = k := Int.toNat_of_nonneg hk
    have a2 : (di.toNat : Int) = di := Int.toNat_of_nonneg hi
    have a3 : (rows.toNat : Int) = rows := Int.toNat_of_nonneg hr
    have a4 : (pr.toNat : Int) = pr := Int.toNat_of_nonneg hp
    show Value.agg #[.int .i64 (k.toNat : Int), _, _, .int .i64 (di.toNat : Int), _, .int .i64 (rows.toNat : Int), .int .i64 (pr.toNat : Int), _, _] = _
    rw [a1, a2, a3, a4]
    rfl
  · obtain ⟨g, e, hc⟩ := hns.cells (fun _ => rfl) (by omega) hn
    refine ⟨g, 0, e, fun i hi => ?_⟩
    rw [Nat.zero_add]
    exact ⟨hc i hi 0 (by omega), hc i hi 1 (by omega)⟩
  · obtain ⟨g, e, hc⟩ := hnd.cells (fun _ => rfl) (by omega) hn
    refine ⟨g, 0, e, fun i hi => ?_⟩
    rw [Nat.zero_add]
    exact ⟨hc i hi 0 (by omega), hc i hi 1 (by omega)⟩
  · obtain ⟨g, e, hc⟩ := hsl.cells (fun _ => rfl) (by omega) hn
    refine ⟨g, 0, e, fun i hi => ?_⟩
    rw [Nat.zero_add]
    exact ⟨hc i hi 0 (by omega), hc i hi 1 (by omega), hc i hi 2 (by omega)⟩
/-- a head of nothing -/
theorem head_none {S : Nat → Prop} {D : Nat} {w : World} (hT : Tab w) (hD : D ≤ big) (hS : ∀ b, S b → b < w.heap.size) : HeadAt S D w none none none none 0 [] [] [] [] :=
  ⟨hT, RowAt.more (d := 0) rfl (Nat.zero_le _), Nat.le_refl _, hD, hS, ⟨by simp [big], fun h => absurd rfl h⟩, ⟨by simp [big], fun h => absurd rfl h⟩, ⟨by simp [big], fun h => absurd rfl h⟩⟩
end Go.Proofs.YtdffjdlpbfcikaaDoor.Kit
namespace Go.Proofs.YtdffjdlpbfcikaaDoor.Kit
open Go.RowKit Go.Shelf Go.Deep
set_option linter.unusedVariables false

/-! ### Get of a head's bytes, of their beginnings, of more -/
theorem src_bytes {W : World} {bo : Option Addr} {bs : List UInt8} {cap : Nat} (h : BytesAt W bo bs) : Src Tryd.prog 1 22 (.slice bo bs.length cap) bs.length (bv bs) W := by
  by_cases hn : bs = []
  · subst hn
    cases bo with
    | none => exact Src.ofNil (w := W) Tryd.underlying22 cap
    | some a => exact Src.ofSlice (w := W) Tryd.underlying22 a 0 cap [] (by simp) (fun j x hx => by simp at hx) (fun x hx => by cases hx)
  · obtain ⟨b, o, rfl, hc⟩ := h hn
    refine Src.ofSlice (w := W) Tryd.underlying22 ⟨b, o, none⟩ bs.length cap (bv bs) (by simp [bv]) (fun j x hx => ?_) (fun x hx => by obtain ⟨z, _, rfl⟩ := List.mem_map.1 hx; rfl)
    have hj : j < bs.length := by
      have := (List.getElem?_eq_some_iff.1 hx).1
      simpa [bv] using this
    have e : x = .int .u8 ((bs[j]).toNat : Int) := by
      have := (List.getElem?_eq_some_iff.1 hx).2
      rw [← this]
      simp [bv]
    rw [e]
    have ea : (⟨b, o, none⟩ : Addr).add j = ⟨b, o + j, none⟩ := by
      by_cases h0 : j = 0
      · subst h0; simp [Addr.add]
      · simp [Addr.add, h0]
    rw [ea]
    exact hc j hj
theorem own_bytes {W : World} {v : Value} {n : Nat} {bs : List UInt8} (h : W.ownsRow 0 5 1 v n (bv bs)) (hn : n = bs.length) : ∃ bo cap, v = .slice bo bs.length cap ∧ BytesAt W bo bs ∧ SForm bo bs.length cap ∧ ∀ b o, bo = some ⟨b, o, none⟩ → b < W.heap.size := by
  subst hn
  rcases h.2 with ⟨rfl, h0⟩ | ⟨g, cap, cur, rfl, _, hg, h3, h4, h5, h6⟩
  · have : bs = [] := List.length_eq_zero_iff.1 h0
    subst this
    exact ⟨none, 0, rfl, fun h => absurd rfl h, ⟨Nat.le_refl _, by omega, .inl rfl⟩, fun b o e => by cases e⟩
  · refine ⟨_, cap, rfl, fun hn => ⟨g, 0, rfl, fun i hi => ?_⟩, ⟨h3, h4, .inr ⟨g, 0, rfl⟩⟩, fun b o e => ?_⟩
    · have := h.cellAt i (by omega)
      rw [Nat.zero_add, this]
      simp [bv, hi]
    · cases e
      exact lt_of_heap hg
end Go.Proofs.YtdffjdlpbfcikaaDoor.Kit
