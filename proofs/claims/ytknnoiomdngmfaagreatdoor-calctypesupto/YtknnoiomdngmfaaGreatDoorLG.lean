import Derived.Test.YtknnoiomdngmfaaGreatDoorLF
import Derived.Test.YtknnoiomdngmfaaGreatDoorGA
set_option maxRecDepth 100000
set_option maxHeartbeats 4000000
namespace Go.Proofs.YtknnoiomdngmfaaGreatDoor.Kit
open Go.RowKit Go.Shelf Go.Deep
set_option linter.unusedVariables false
attribute [local go_sem] run_store_func
structure TenAt (W : World) (g o : Nat) (x : LS) (wb wc : Nat) (fo : Option Addr) (fc : Nat) (ao : Option Addr) (ca : Nat) : Prop where
  c0 : W.cell? ⟨g, o, none⟩ = some (.slice (some ⟨wb, 0, none⟩) x.path.length wc)
  c1 : W.cell? ⟨g, o + 1, none⟩ = some (.string x.fld.name)
  c2 : W.cell? ⟨g, o + 2, none⟩ = some (.bool x.fld.nul)
  c3 : W.cell? ⟨g, o + 3, none⟩ = some (.int .i64 x.fld.kind)
  c4 : W.cell? ⟨g, o + 4, none⟩ = some (.int .i64 x.fld.width)
  c5 : W.cell? ⟨g, o + 5, none⟩ = some (.int .i64 x.fld.id)
  c6 : W.cell? ⟨g, o + 6, none⟩ = some (.int .i64 x.fld.index)
  c7 : W.cell? ⟨g, o + 7, none⟩ = some (.slice fo x.fld.kids.length fc)
  c8 : W.cell? ⟨g, o + 8, none⟩ = some (.slice ao x.idx ca)
  c9 : W.cell? ⟨g, o + 9, none⟩ = some (.bool x.inD)
theorem TenAt.gr {W W' : World} {g o : Nat} {x : LS} {wb wc : Nat} {fo : Option Addr} {fc : Nat} {ao : Option Addr} {ca : Nat} (h : TenAt W g o x wb wc fo fc ao ca) (k : Gr W W') : TenAt W' g o x wb wc fo fc ao ca :=
  ⟨k.cell' h.c0 id, k.cell' h.c1 id, k.cell' h.c2 id, k.cell' h.c3 id, k.cell' h.c4 id, k.cell' h.c5 id, k.cell' h.c6 id, k.cell' h.c7 id, k.cell' h.c8 id, k.cell' h.c9 id⟩
theorem OutAt.ten {S : Nat → Prop} {W : World} {vo : Option Addr} {vc : Nat} {out : List LS} (h : OutAt S W (.slice vo out.length vc) out) (hne : 0 < out.length) :
    ∃ g, vo = some ⟨g, 0, none⟩ ∧ out.length ≤ vc ∧ ∀ j (hj : j < out.length), ∃ wb wc fo fc ao ca, TenAt W g (j * 10) out[j] wb wc fo fc ao ca ∧ NodeIn S W out[j] wb wc fo fc ao ca := by
  obtain ⟨cs, hown, hc⟩ := h
  have hl : cs.length = out.length * 10 := hown.1
  rcases hown.2 with ⟨e, h0⟩ | ⟨g, cap, cur, e, h1, h2, h3, _⟩
  · omega
  cases e
  refine ⟨g, rfl, h3, fun j hj => ?_⟩
  obtain ⟨wb, wc, fo, fc, ao, ca, h1, h2⟩ := hc j hj
  have key : ∀ t, t < 10 → W.cell? ⟨g, j * 10 + t, none⟩ = (nodeCells out[j] wb wc fo fc ao ca)[t]? := fun t ht => by
    rw [hown.cellAt (j * 10 + t) (by omega), ← h1, List.getElem?_take, if_pos ht, List.getElem?_drop]
  exact ⟨wb, wc, fo, fc, ao, ca, ⟨key 0 (by omega), key 1 (by omega), key 2 (by omega), key 3 (by omega), key 4 (by omega), key 5 (by omega), key 6 (by omega), key 7 (by omega), key 8 (by omega), key 9 (by omega)⟩, h2⟩
structure NB (W : World) (B : Nat) (x0 x1 x2 x3 x4 x5 x6 x7 x8 x9 : Value) : Prop where
  hb : W.heap[B]? = some (.cells #[x0, x1, x2, x3, x4, x5, x6, x7, x8, x9] 88)
  hf : W.heap[B + 1]? = some (.cells #[x1, x2, x3, x4, x5, x6, x7] 26)
theorem NB.gr {W W' : World} {B : Nat} {x0 x1 x2 x3 x4 x5 x6 x7 x8 x9 : Value} (h : NB W B x0 x1 x2 x3 x4 x5 x6 x7 x8 x9) (g : Gr W W') : NB W' B x0 x1 x2 x3 x4 x5 x6 x7 x8 x9 :=
  ⟨(g.block _ (lt_of_heap h.hb) id).trans h.hb, (g.block _ (lt_of_heap h.hf) id).trans h.hf⟩
theorem NB.cells {W : World} {B : Nat} {x0 x1 x2 x3 x4 x5 x6 x7 x8 x9 : Value} (h : NB W B x0 x1 x2 x3 x4 x5 x6 x7 x8 x9) :
    W.cell? ⟨B, 0, none⟩ = some x0 ∧ W.cell? ⟨B, 8, none⟩ = some x8 ∧ W.cell? ⟨B, 9, none⟩ = some x9 ∧ W.cell? ⟨B + 1, 0, none⟩ = some x1 ∧ W.cell? ⟨B + 1, 1, none⟩ = some x2 ∧ W.cell? ⟨B + 1, 2, none⟩ = some x3 ∧ W.cell? ⟨B + 1, 3, none⟩ = some x4 ∧ W.cell? ⟨B + 1, 4, none⟩ = some x5 ∧ W.cell? ⟨B + 1, 5, none⟩ = some x6 ∧ W.cell? ⟨B + 1, 6, none⟩ = some x7 := by
  obtain ⟨hb, hf⟩ := h
  refine ⟨?_, ?_, ?_, ?_, ?_, ?_, ?_, ?_, ?_, ?_⟩ <;> simp [World.cell?, hb, hf]
theorem NB.new (w : World) (x0 x1 x2 x3 x4 x5 x6 x7 x8 x9 : Value) : NB ((w.alloc (.cells #[x0, x1, x2, x3, x4, x5, x6, x7, x8, x9] 88)).alloc (.cells #[x1, x2, x3, x4, x5, x6, x7] 26)) w.heap.size x0 x1 x2 x3 x4 x5 x6 x7 x8 x9 := by
  refine ⟨(Below.heap_alloc _ _ _ (by simp)).trans (World.alloc_heap_new w _), ?_⟩
  have := World.alloc_heap_new (w.alloc (.cells #[x0, x1, x2, x3, x4, x5, x6, x7, x8, x9] 88)) (.cells #[x1, x2, x3, x4, x5, x6, x7] 26)
  rw [World.size_alloc] at this
  exact this
theorem kids_cell {S : Nat → Prop} {W : World} {D : Nat} {fo : Option Addr} {l : List FT} (h : RowAt S W D fo l) (hne : l ≠ []) : ∃ b o, fo = some ⟨b, o, none⟩ ∧ W.cell? ⟨b, o + 1, none⟩ = some (.bool ((l[0]?.map FT.nul).getD false)) := by
  cases D with
  | zero => exact absurd h hne
  | succ D =>
    obtain ⟨b, o, e, _, hc⟩ := h.2 hne
    obtain ⟨f, t, rfl⟩ := List.exists_cons_of_ne_nil hne
    obtain ⟨ao', ca', h1, _⟩ := hc 0 (by simp)
    refine ⟨b, o, e, ?_⟩
    have := h1.c1
    simpa using this
theorem wrongR_walk (g n vc k m wb wc : Nat) (f : FT) (fo : Option Addr) (fc : Nat) (ao : Option Addr) (i ca : Nat) (inD : Bool) (lst : List FT) (ids : Nat → Int × Int) (tk : Bool) (idx : Int) (w : World) (hk : k < n) (hn : n ≤ 257) (hvc : n ≤ vc) (hi : i ≤ 1000000000000) (hica : i ≤ ca) (hkl : f.kids.length ≤ big)
    (h0 : w.cell? ⟨g, k * 10, none⟩ = some (.slice (some ⟨wb, 0, none⟩) m wc)) (h1 : w.cell? ⟨g, k * 10 + 1, none⟩ = some (.string f.name)) (h2 : w.cell? ⟨g, k * 10 + 2, none⟩ = some (.bool f.nul)) (h3 : w.cell? ⟨g, k * 10 + 3, none⟩ = some (.int .i64 f.kind)) (h4 : w.cell? ⟨g, k * 10 + 4, none⟩ = some (.int .i64 f.width)) (h5 : w.cell? ⟨g, k * 10 + 5, none⟩ = some (.int .i64 f.id)) (h6 : w.cell? ⟨g, k * 10 + 6, none⟩ = some (.int .i64 f.index)) (h7 : w.cell? ⟨g, k * 10 + 7, none⟩ = some (.slice fo f.kids.length fc)) (h8 : w.cell? ⟨g, k * 10 + 8, none⟩ = some (.slice ao i ca)) (h9 : w.cell? ⟨g, k * 10 + 9, none⟩ = some (.bool inD))
    (hlst : ∀ j, j < i → ∃ b o fj aj cj, ao = some ⟨b, o, none⟩ ∧ CellsAt w b (o + j * 7) fj aj cj ∧ lst[j]? = some fj)
    (hx1 : (∃ j fj, j < i ∧ lst[j]? = some fj ∧ sEq fj.name f.name = true) → idx ≠ i) (hx2 : (∀ j fj, j < i → lst[j]? = some fj → sEq fj.name f.name = false) → idx = i)
    (hprev : ∀ j, j < k → ∃ x wb wc fo fc ao ca, TenAt w g (j * 10) x wb wc fo fc ao ca ∧ ids j = (x.fld.kind, x.fld.id))
    (htk1 : tableB f = true → f.kind = 19 → (∃ j, j < k ∧ (ids j).1 = 19 ∧ (ids j).2 = f.id) → tk = true) (htk2 : tableB f = true → f.kind = 19 → (∀ j, j < k → ¬ ((ids j).1 = 19 ∧ (ids j).2 = f.id)) → tk = false)
    (hsh : ∀ W, Gr w W → Calls Tryz.prog 113 #[typV f fo fc] W fun e w' => e = .returned (.bool (tableB f)) ∧ Gr W w')
    (hnu : tableB f = true → ∀ W, Gr w W → Calls Tryz.prog 114 #[fldV f fo fc] W fun e w' => e = .returned (.bool (nullB f)) ∧ Gr W w')
    (hkid : tableB f = true → f.kind = 19 → ∃ b o, fo = some ⟨b, o, none⟩ ∧ 0 < f.kids.length ∧ w.cell? ⟨b, o + 1, none⟩ = some (.bool (kid0 f))) :
    Calls Tryz.prog 76 #[.slice (some ⟨g, 0, none⟩) n vc, .int .i64 (k : Int)] w fun e w' => e = .returned (.int .i64 (wr m k (nameB f.name) idx i (tableB f) (nullB f) inD f.kind (kid0 f) tk)) ∧ Gr w w' := by
  have HL := hidM hlst
  have HX1 := hidM hx1
  have HX2 := hidM hx2
  have HP := hidM hprev
  have HT1 := hidM htk1
  have HT2 := hidM htk2
  have HSh := hidM hsh
  have HNu := hidM hnu
  have HKid := hidM hkid
  clear hlst hx1 hx2 hprev htk1 htk2 hsh hnu hkid
  obtain ⟨R, hR⟩ : ∃ R, R = wr m k (nameB f.name) idx i (tableB f) (nullB f) inD f.kind (kid0 f) tk := ⟨_, rfl⟩
  rw [← hR]
  have HR := hidM hR
  clear hR
  have hkI : (k : Int) < (n : Int) := by omega
  obtain ⟨W0, hW0⟩ := ex ((w.alloc (.cells #[.slice (some ⟨wb, 0, none⟩) m wc, .string f.name, .bool f.nul, .int .i64 f.kind, .int .i64 f.width, .int .i64 f.id, .int .i64 f.index, .slice fo f.kids.length fc, .slice ao i ca, .bool inD] 88)).alloc (.cells #[.string f.name, .bool f.nul, .int .i64 f.kind, .int .i64 f.width, .int .i64 f.id, .int .i64 f.index, .slice fo f.kids.length fc] 26))
  have HN : Hid (Gr w W0 ∧ NB W0 w.heap.size (.slice (some ⟨wb, 0, none⟩) m wc) (.string f.name) (.bool f.nul) (.int .i64 f.kind) (.int .i64 f.width) (.int .i64 f.id) (.int .i64 f.index) (.slice fo f.kids.length fc) (.slice ao i ca) (.bool inD)) := by
    rw [← hW0]
    exact ⟨((Keeps.refl w _).alloc _).alloc _, NB.new ..⟩
  obtain ⟨b0, b8, b9, e0, e1, e2, e3, e4, e5, e6⟩ := HN.out.2.cells
  by_cases hm64 : 64 < m
  · have hmI : (64 : Int) < (m : Int) := by omega
    have HE : Hid (R = 33) := by show _ = _; rw [HR.out]; unfold wr; rw [if_pos hm64]
    go_enter Tryz.func76, Tryz.ntmps76
    go_wp2
    go_ret
    exact ⟨by rw [HE.out]; rfl, HN.out.1⟩
  have hmI : ¬ (64 : Int) < (m : Int) := by omega
  by_cases hk256 : 256 ≤ k
  · have hkk : (256 : Int) ≤ (k : Int) := by omega
    have HE : Hid (R = 34) := by show _ = _; rw [HR.out]; unfold wr; rw [if_neg hm64, if_pos (by omega)]
    go_enter Tryz.func76, Tryz.ntmps76
    go_wp2
    go_ret
    exact ⟨by rw [HE.out]; rfl, HN.out.1⟩
  have hkk : ¬ (256 : Int) ≤ (k : Int) := by omega
  have hnm := isNameR_any f.name W0
  obtain ⟨nameR, hnameR⟩ : ∃ z, z = nameB f.name := ⟨_, rfl⟩
  rw [← hnameR] at hnm HR
  cases nameR with
  | false =>
    have HE : Hid (R = 30) := by show _ = _; rw [HR.out]; unfold wr; rw [if_neg hm64, if_neg (by omega), if_pos rfl]
    clear hnameR
    go_enter Tryz.func76, Tryz.ntmps76
    go_wp2_with (go_at_call 112; refine Calls.mono hnm ?_; rintro e w2 ⟨rfl, rfl⟩)
    go_ret
    exact ⟨by rw [HE.out]; rfl, HN.out.1⟩
  | true =>
    have HR2 : Hid (R = if idx ≠ i then 31 else if tableB f = false then 32 else if nullB f = false then 35
      else if inD = true ∧ (f.kind = 19 ∨ f.kind = 20) then 36 else if f.kind = 19 ∧ (kid0 f = true ∨ tk = true) then 36 else 0) := by
      show _ = _
      rw [HR.out]; unfold wr; rw [if_neg hm64, if_neg (by omega), if_neg (by simp)]
    clear HR hnameR
    have hiI : (i : Int) ≤ 1000000000000 := by omega
    go_enter Tryz.func76, Tryz.ntmps76
    go_wp2_with (go_at_call 112; refine Calls.mono hnm ?_; rintro e w2 ⟨rfl, rfl⟩)
    clear hnm
    go_loopw [30] (fun p wr => ∃ j : Nat, j ≤ i ∧ p = .int .i64 (j : Int) ∧ Hid (Gr w2 wr ∧ ∀ j' fj, j' < j → lst[j']? = some fj → sEq fj.name f.name = false)) (fun p _ => i - (intOf p).toNat)
    case atStart => exact ⟨0, by omega, rfl, Keeps.refl _ _, fun j fj h => by omega⟩
    case round =>
      obtain ⟨j, hj, rfl, HJ⟩ := hrel
      by_cases hlt : j < i
      · obtain ⟨b, o, fj, aj, cj, rfl, hc, hl⟩ := HL.out j hlt
        obtain ⟨g0, g1, g2, g3, g4, g5, g6⟩ := hc.kept ((HN.out.1.tr HJ.out.1).block b (block_lt_of_cell hc.c0) id)
        have hltI : (j : Int) < (i : Int) := by omega
        have n1 : ∀ x, (wr.alloc x).cell? ⟨w.heap.size + 1, 0, none⟩ = some (.string f.name) := fun x => ((HJ.out.1).alloc x).cell' e0 id
        clear hc
        by_cases hq : sEq fj.name f.name = true
        · have hq' : (fj.name.toList == f.name.toList) = true := hq
          have HE : Hid (R = 31) := by show _ = _; rw [HR2.out, if_pos (HX1.out ⟨j, fj, hlt, hl, hq⟩)]
          have HG := hidM (HN.out.1.tr HJ.out.1)
          clear hq hl
          go_wp2
          go_ret
          exact ⟨by rw [HE.out]; rfl, HG.out.alloc _⟩
        have hq1 : sEq fj.name f.name = false := by simpa using hq
        have hq' : (fj.name.toList == f.name.toList) = false := hq1
        have HM : Hid (∀ j' fj, j' < j + 1 → lst[j']? = some fj → sEq fj.name f.name = false) := fun j' f' h1 h2 => by
          by_cases e : j' = j
          · subst e; rw [hl] at h2; cases h2; exact hq1
          exact HJ.out.2 j' f' (by omega) h2
        have HG := hidM HJ.out.1
        clear hq hq1 hl
        go_wp2
        go_roundw
        case rel => exact ⟨j + 1, by omega, by simp, HG.out.alloc _, HM.out⟩
        case measure => simp [intOf]; omega
      have hjI : ¬ (j : Int) < (i : Int) := by omega
      have hidx := HX2.out (fun j' fj h h2 => HJ.out.2 j' fj (by omega) h2)
      have HG := hidM (HN.out.1.tr HJ.out.1)
      obtain ⟨b0, b8, b9, e0, e1, e2, e3, e4, e5, e6⟩ := (HN.out.2.gr HJ.out.1).cells
      have HR3 : Hid (R = if tableB f = false then 32 else if nullB f = false then 35
        else if inD = true ∧ (f.kind = 19 ∨ f.kind = 20) then 36 else if f.kind = 19 ∧ (kid0 f = true ∨ tk = true) then 36 else 0) := by
        show _ = _
        rw [HR2.out, if_neg (by simp [hidx])]
      have hcs := HSh.out wr HG.out
      unfold typV at hcs
      have HU : Hid (tableB f = true → ∀ W, Gr w W → Calls Tryz.prog 114 #[.agg #[.string f.name, .bool f.nul, .int .i64 f.kind, .int .i64 f.width, .int .i64 f.id, .int .i64 f.index, .slice fo f.kids.length fc]] W fun e w' => e = .returned (.bool (nullB f)) ∧ Gr W w') := HNu.out
      have HK2 := hidM HKid.out
      have HQ1 := hidM HT1.out
      have HQ2 := hidM HT2.out
      have HNB : Hid (NB wr w.heap.size (.slice (some ⟨wb, 0, none⟩) m wc) (.string f.name) (.bool f.nul) (.int .i64 f.kind) (.int .i64 f.width) (.int .i64 f.id) (.int .i64 f.index) (.slice fo f.kids.length fc) (.slice ao i ca) (.bool inD)) := HN.out.2.gr HJ.out.1
      obtain ⟨tabR, htabR⟩ := ex (tableB f)
      rw [htabR] at hcs HR3 HU HK2 HQ1 HQ2
      obtain ⟨nulR, hnulR⟩ := ex (nullB f)
      rw [hnulR] at HR3 HU
      clear HR2 HJ HN HL HX1 HX2 HSh HNu HKid HT1 HT2 hidx htabR hnulR h0 h1 h2 h3 h4 h5 h6 h7 h8 h9
      cases tabR with
      | false =>
        have HE : Hid (R = 32) := by show _ = _; rw [HR3.out, if_pos rfl]
        go_wp2_with (go_at_call 113; refine Calls.mono hcs ?_; rintro e w3 ⟨rfl, hg3⟩)
        go_ret
        exact ⟨by rw [HE.out]; rfl, HG.out.tr hg3⟩
      | true =>
        go_wp2_with (go_at_call 113; refine Calls.mono hcs ?_; rintro e w3 ⟨rfl, hg3⟩; have HG3 := hidM (HG.out.tr hg3); have HNB3 := hidM (HNB.out.gr hg3); obtain ⟨b0, b8, b9, e0, e1, e2, e3, e4, e5, e6⟩ := HNB3.out.cells; have hcn := HU.out rfl w3 HG3.out)
        clear hcs hg3
        refine Calls.mono hcn ?_
        rintro e w4 ⟨rfl, hg4⟩
        have HG4 := hidM (HG3.out.tr hg4)
        have HNB4 := hidM (HNB3.out.gr hg4)
        obtain ⟨b0, b8, b9, e0, e1, e2, e3, e4, e5, e6⟩ := HNB4.out.cells
        clear hcn HU HG3 HNB3 HNB HG
        cases nulR with
        | false =>
          have HE : Hid (R = 35) := by show _ = _; rw [HR3.out, if_neg (by simp), if_pos rfl]
          clear hg4
          go_wp2
          go_ret
          exact ⟨by rw [HE.out]; rfl, HG4.out⟩
        | true =>
          have HR4 : Hid (R = if inD = true ∧ (f.kind = 19 ∨ f.kind = 20) then 36 else if f.kind = 19 ∧ (kid0 f = true ∨ tk = true) then 36 else 0) := by
            show _ = _
            rw [HR3.out, if_neg (by simp), if_neg (by simp)]
          clear HR3 hg4
          by_cases q : f.kind = 19
          · rw [q] at e2
            cases inD with
            | true =>
              have HE : Hid (R = 36) := by show _ = _; rw [HR4.out, if_pos ⟨rfl, .inl q⟩]
              go_wp2
              go_ret
              exact ⟨by rw [HE.out]; rfl, HG4.out⟩
            | false =>
              obtain ⟨b, o, rfl, hkp, hkc⟩ := HK2.out (by trivial) q
              have hkc4 := HG4.out.cell' hkc id
              have hkpI : (0 : Int) < (f.kids.length : Int) := by omega
              obtain ⟨kid, hkid⟩ := ex (kid0 f)
              rw [hkid] at hkc4 HR4
              clear hkc hkid
              cases kid with
              | true =>
                have HE : Hid (R = 36) := by show _ = _; rw [HR4.out, if_neg (by simp), if_pos ⟨q, .inl rfl⟩]
                go_wp2
                go_ret
                exact ⟨by rw [HE.out]; rfl, HG4.out⟩
              | false =>
                have HR5 : Hid (R = if tk = true then 36 else 0) := by
                  show _ = _
                  rw [HR4.out, if_neg (by simp)]
                  simp [q]
                have hkvI : (k : Int) ≤ (vc : Int) := by omega
                have HQ1' := hidM (HQ1.out (by trivial) q)
                have HQ2' := hidM (HQ2.out (by trivial) q)
                clear HR4 HQ1 HQ2 HK2
                go_wp2
                go_loopw [75] (fun p wr => ∃ j : Nat, j ≤ k ∧ p = .int .i64 (j : Int) ∧ Hid (Gr w4 wr ∧ ∀ j', j' < j → ¬ ((ids j').1 = 19 ∧ (ids j').2 = f.id))) (fun p _ => k - (intOf p).toNat)
                case atStart => exact ⟨0, by omega, rfl, Keeps.refl _ _, fun j h => by omega⟩
                case round =>
                  obtain ⟨j, hj, rfl, HJ⟩ := hrel
                  by_cases hlt : j < k
                  · obtain ⟨x, wb', wc', fo', fc', ao', ca', hten, hids⟩ := HP.out j hlt
                    obtain ⟨t0, t1, t2, t3, t4, t5, t6, t7, t8, t9⟩ := hten.gr (HG4.out.tr HJ.out.1)
                    have hltI : (j : Int) < (k : Int) := by omega
                    have n1 : ∀ x, (wr.alloc x).cell? ⟨w.heap.size + 1, 4, none⟩ = some (.int .i64 f.id) := fun x => ((HJ.out.1).alloc x).cell' e4 id
                    clear hten
                    have HG5 := hidM (HG4.out.tr HJ.out.1)
                    have HM : Hid (¬ (x.fld.kind = 19 ∧ x.fld.id = f.id) → ∀ j', j' < j + 1 → ¬ ((ids j').1 = 19 ∧ (ids j').2 = f.id)) := fun h0 j' h1 => by
                      by_cases e : j' = j
                      · subst e; rw [hids]; exact h0
                      exact HJ.out.2 j' (by omega)
                    have HJ2 := hidM HJ.out.1
                    by_cases r1 : x.fld.kind = 19
                    · rw [r1] at t3
                      by_cases r2 : x.fld.id = f.id
                      · rw [r2] at t5
                        have HE : Hid (R = 36) := by show _ = _; rw [HR5.out, if_pos (HQ1'.out ⟨j, hlt, by rw [hids]; exact r1, by rw [hids]; exact r2⟩)]
                        clear r1 r2 hids HM
                        go_wp2
                        go_ret
                        exact ⟨by rw [HE.out]; rfl, HG5.out.alloc _⟩
                      have r3 := beqF r2
                      have HM2 := hidM (HM.out fun h => r2 h.2)
                      clear r1 r2 hids HM
                      go_wp2
                      go_roundw
                      case rel => exact ⟨j + 1, by omega, by simp, HJ2.out.alloc _, HM2.out⟩
                      case measure => simp [intOf]; omega
                    have r3 := beqF r1
                    have HM2 := hidM (HM.out fun h => r1 h.1)
                    clear r1 hids HM
                    go_wp2
                    go_roundw
                    case rel => exact ⟨j + 1, by omega, by simp, HJ2.out.alloc _, HM2.out⟩
                    case measure => simp [intOf]; omega
                  have hjI : ¬ (j : Int) < (k : Int) := by omega
                  have HE : Hid (R = 0) := by show _ = _; rw [HR5.out, if_neg (by simp [HQ2'.out fun j' h => HJ.out.2 j' (by omega)])]
                  have HG5 := hidM (HG4.out.tr HJ.out.1)
                  go_wp2
                  go_ret
                  exact ⟨by rw [HE.out]; rfl, HG5.out⟩
          have q1 := beqF q
          by_cases q2 : f.kind = 20
          · rw [q2] at e2 q1
            cases inD with
            | true =>
              have HE : Hid (R = 36) := by show _ = _; rw [HR4.out, if_pos ⟨rfl, .inr q2⟩]
              go_wp2
              go_ret
              exact ⟨by rw [HE.out]; rfl, HG4.out⟩
            | false =>
              have HE : Hid (R = 0) := by show _ = _; rw [HR4.out, if_neg (by simp), if_neg (by simp [q])]
              go_wp2
              go_ret
              exact ⟨by rw [HE.out]; rfl, HG4.out⟩
          have q3 := beqF q2
          have HE : Hid (R = 0) := by show _ = _; rw [HR4.out, if_neg (by simp [q, q2]), if_neg (by simp [q])]
          go_wp2
          go_ret
          exact ⟨by rw [HE.out]; rfl, HG4.out⟩
end Go.Proofs.YtknnoiomdngmfaaGreatDoor.Kit
