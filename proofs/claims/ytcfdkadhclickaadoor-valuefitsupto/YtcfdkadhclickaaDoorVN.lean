import Derived.Test.YtcfdkadhclickaaDoorVH
import Derived.Test.YtcfdkadhclickaaDoorVI
import Derived.Test.YtcfdkadhclickaaDoorVJ
import Derived.Test.YtcfdkadhclickaaDoorVM
namespace Go.Proofs.YtcfdkadhclickaaDoor.Kit
open Go.RowKit Go.Shelf Go.Deep
set_option linter.unusedVariables false

/-! ### fitsType, all kinds; all depths -/
theorem RowAt.more {S : Nat → Prop} {W : World} : ∀ {d e : Nat} {ao : Option Addr} {l : List FT}, d ≤ e → RowAt S W d ao l → RowAt S W e ao l
  | 0, 0, _, _, _, h => h
  | 0, e + 1, _, l, _, h => by have : l = [] := h; subst this; exact ⟨by simp [big], fun h => absurd rfl h⟩
  | d + 1, 0, _, _, h, _ => by omega
  | d + 1, e + 1, _, _, hle, h => ⟨h.1, fun hn => by
    obtain ⟨b, o, e, hb, hi⟩ := h.2 hn
    refine ⟨b, o, e, hb, fun i hl => ?_⟩
    obtain ⟨ao', ca', hc, hle', hr⟩ := hi i hl
    exact ⟨ao', ca', hc, hle', RowAt.more (by omega) hr⟩⟩
theorem ite_iff {α : Type} {P Q : Prop} [Decidable P] [Decidable Q] {a b : α} (h : P ↔ Q) : (if P then a else b) = if Q then a else b := by
  by_cases q : Q
  · rw [if_pos q, if_pos (h.2 q)]
  · rw [if_neg q, if_neg (fun p => q (h.1 p))]
theorem fits47 {f : FT} {ao : Option Addr} {ca : Nat} {v : VT} {vo : Option Addr} {vc : Nat} {w : World} {sb : Nat} {r : VT → Int → Option Int} (hv : VOk v)
    (h : FitC w sb 70 (.agg #[.string f.name, .bool f.nul, .int .i64 f.kind, .int .i64 f.width, .int .i64 f.id, .int .i64 f.index, .slice ao f.kids.length ca]) (.agg #[.bool v.nul, .int .i64 v.num, .string v.text, .slice vo v.list.length vc]) (r v)) :
    FitC w sb 47 (.agg #[.string f.name, .bool f.nul, .int .i64 f.kind, .int .i64 f.width, .int .i64 f.id, .int .i64 f.index, .slice ao f.kids.length ca]) (.agg #[.bool v.nul, .int .i64 v.num, .string v.text, .slice vo v.list.length vc]) (weigh r v) :=
  fits_walk _ _ _ _ _ _ _ _ _ _ _ _ _ _ _ _ _ _ hv.2 h
theorem head_get {l : List FT} (h : l ≠ []) : 0 < l.length ∧ ∀ (h' : 0 < l.length), l[0] = l.head! := by
  cases l with
  | nil => exact absurd rfl h
  | cons a l => exact ⟨by simp, fun _ => rfl⟩
theorem type_step (S : Nat → Prop) (D : Nat) (w : World) (sb : Nat) (hS : ∀ b, S b → b < w.heap.size ∧ b ≠ sb)
    (hU : ∀ (s : ByteArray), s.size ≤ big → ∀ W', Keeps w W' (fun k => k = sb) → Calls Tryd.prog 89 #[.string s] W' fun e w' => e = .returned (.bool (Lib.validD s.data.toList)) ∧ Gr W' w')
    (f : FT) (ao : Option Addr) (ca : Nat) (r : FT → VT → Int → Option Int) (hr : ∀ g, Falls (r g)) (hf : RowAt S w (D + 1) ao f.kids) (hT : tableB f = true)
    (hkid : ∀ (g : FT) (go : Option Addr) (gc : Nat), g ∈ f.kids → g.kids.length ≤ gc → RowAt S w D go g.kids → ∀ (v : VT) (vo : Option Addr) (vc dv : Nat), VOk v → VRow S w dv vo v.list → FitC w sb 70 (.agg #[.string g.name, .bool g.nul, .int .i64 g.kind, .int .i64 g.width, .int .i64 g.id, .int .i64 g.index, .slice go g.kids.length gc]) (.agg #[.bool v.nul, .int .i64 v.num, .string v.text, .slice vo v.list.length vc]) (r g v))
    (v : VT) (vo : Option Addr) (vc dv : Nat) (hok : VOk v) (hv : VRow S w dv vo v.list) :
    FitC w sb 70 (.agg #[.string f.name, .bool f.nul, .int .i64 f.kind, .int .i64 f.width, .int .i64 f.id, .int .i64 f.index, .slice ao f.kids.length ca]) (.agg #[.bool v.nul, .int .i64 v.num, .string v.text, .slice vo v.list.length vc]) (fitsB r f v) := by
  intro W l hs hl0 hl1
  have n1 : (v.num == 0) = true ↔ v.num = 0 := beq_iff_eq
  have n2 : v.text.toList.isEmpty = true ↔ v.text.size = 0 := by
    rw [ByteArray.toList_eq, List.isEmpty_iff_length_eq_zero]
    simp
  have n3 : ((v.list.length : Int) == 0) = true ↔ v.list = [] := by
    rw [beq_iff_eq, ← List.length_eq_zero_iff]
    omega
  have hvl : v.list.length ≤ 1000000000000 := hv.len
  have hfl : f.kids.length ≤ 1000000000000 := hf.len
  -- the first child, where there is one
  have kid : f.kids ≠ [] → ∃ kb ko, ao = some ⟨kb, ko, none⟩ ∧ kb ≠ sb ∧ ∃ go gc, CellsAt W kb ko f.kids.head! go gc ∧ f.kids.head!.kids.length ≤ gc ∧ RowAt S w D go f.kids.head!.kids := by
    intro hne
    obtain ⟨h0, he⟩ := head_get hne
    obtain ⟨kb, ko, rfl, hb, hi⟩ := hf.2 hne
    obtain ⟨go, gc, hc, hle, hrow⟩ := hi 0 h0
    rw [he h0] at hc hle hrow
    simp only [Nat.zero_mul, Nat.add_zero] at hc
    exact ⟨kb, ko, rfl, (hS kb hb).2, go, gc, hc.kept (hs.kp.block kb (hS kb hb).1 (hS kb hb).2), hle, hrow⟩
  have hmem : f.kids ≠ [] → f.kids.head! ∈ f.kids := fun h => by
    cases hk : f.kids with
    | nil => exact absurd hk h
    | cons a b => exact List.mem_cons_self
  cases hn : v.nul with
  | true =>
    refine type_null _ _ _ _ _ _ _ _ _ _ _ _ _ _ w W sb l _ _ _ _ rfl rfl rfl hs ?_
    unfold fitsB
    rw [if_pos hn]
    exact ite_iff (by simp only [Bool.and_eq_true, n1, n2, n3]; constructor <;> (rintro h; simp_all))
  | false =>
    have hk := tab_kind hT
    have hnn : ¬ v.nul = true := by rw [hn]; exact Bool.false_ne_true
    unfold fitsB
    rw [if_neg hnn]
    by_cases k12 : f.kind = 12
    · rw [if_pos k12, k12]
      refine type12 _ _ _ _ _ _ _ _ _ _ _ _ _ w W sb l _ _ _ _ rfl rfl rfl hs _ (fun W' g => hU _ hok.2 W' (hs.kp.trans g (fun _ _ h => h.elim))) ?_
      exact ite_iff (by simp only [Bool.and_eq_true, n1, n3, and_assoc])
    rw [if_neg k12]
    by_cases k13 : f.kind = 13
    · rw [if_pos k13, k13]
      refine type13 _ _ _ _ _ _ _ _ _ _ _ _ _ w W sb l _ _ _ _ rfl rfl rfl hs ?_
      exact ite_iff (by simp only [Bool.and_eq_true, n1, n3])
    rw [if_neg k13]
    by_cases k14 : f.kind = 14
    · rw [if_pos k14, k14]
      refine type14 _ _ _ _ _ _ _ _ _ _ _ _ _ w W sb l _ _ _ _ rfl rfl rfl hs _ rfl ?_
      exact ite_iff (by simp only [Bool.and_eq_true, n1, n3, beq_iff_eq, and_assoc])
    rw [if_neg k14]
    by_cases k15 : f.kind = 15
    · rw [if_pos k15, k15]
      have hne := tab_kid hT (.inl k15)
      obtain ⟨kb, ko, rfl, hkb, go, gc, hc, hle, hrow⟩ := kid hne
      have hit := items_any S dv v.list f.kids.head!.name f.kids.head!.nul f.kids.head!.kind f.kids.head!.width f.kids.head!.id f.kids.head!.index go f.kids.head!.kids.length gc vo vc w sb (r f.kids.head!) (hr _) hS (hv.more (by omega)) (fun u ao ca h1 h2 => fits47 h1 (hkid _ _ _ (hmem hne) hle hrow u ao ca dv h1 h2))
      by_cases hc1 : v.num = 0 ∧ v.text.size = 0
      · have e : (if v.num = 0 ∧ v.text.size = 0 ∧ v.list.length ≤ 4096 then fitsL (weigh (r f.kids.head!)) v.list l else none) = (if v.list.length ≤ 4096 then fitsL (weigh (r f.kids.head!)) v.list l else none) := ite_iff (by simp [hc1.1, hc1.2])
        rw [e, hc1.1]
        exact type15 _ _ _ _ _ _ _ _ _ _ _ _ _ _ _ _ _ _ _ _ _ _ w W sb l _ _ hs hl0 hl1 (head_get hne).1 rfl hkb (n2.2 hc1.2) hc.c0 hc.c1 hc.c2 hc.c3 hc.c4 hc.c5 hc.c6 hit
      · rw [if_neg (fun h => hc1 ⟨h.1, h.2.1⟩)]
        refine type15_no _ _ _ _ _ _ _ _ _ _ _ _ _ w W sb l _ _ _ _ rfl rfl rfl hs ?_ rfl
        rw [Bool.eq_false_iff]
        intro h
        simp only [Bool.and_eq_true, n1, n2] at h
        exact hc1 h
    rw [if_neg k15]
    by_cases k16 : f.kind = 16
    · rw [if_pos k16, k16]
      have hne := tab_kid hT (.inr (.inl k16))
      obtain ⟨kb, ko, rfl, hkb, go, gc, hc, hle, hrow⟩ := kid hne
      have hit := items_any S dv v.list f.kids.head!.name f.kids.head!.nul f.kids.head!.kind f.kids.head!.width f.kids.head!.id f.kids.head!.index go f.kids.head!.kids.length gc vo vc w sb (r f.kids.head!) (hr _) hS (hv.more (by omega)) (fun u ao ca h1 h2 => fits47 h1 (hkid _ _ _ (hmem hne) hle hrow u ao ca dv h1 h2))
      by_cases hc1 : v.num = 0 ∧ v.text.size = 0 ∧ (v.list.length : Int) = f.width
      · have e : (if v.num = 0 ∧ v.text.size = 0 ∧ (v.list.length : Int) = f.width ∧ v.list.length ≤ 4096 then fitsL (weigh (r f.kids.head!)) v.list l else none) = (if v.list.length ≤ 4096 then fitsL (weigh (r f.kids.head!)) v.list l else none) := ite_iff ⟨fun h => h.2.2.2, fun h => ⟨hc1.1, hc1.2.1, hc1.2.2, h⟩⟩
        rw [e, hc1.1]
        exact type16 _ _ _ _ _ _ _ _ _ _ _ _ _ _ _ _ _ _ _ _ _ _ w W sb l _ _ hs hl0 hl1 (head_get hne).1 rfl hkb (n2.2 hc1.2.1) (beq_iff_eq.2 hc1.2.2) hc.c0 hc.c1 hc.c2 hc.c3 hc.c4 hc.c5 hc.c6 hit
      · rw [if_neg (fun h => hc1 ⟨h.1, h.2.1, h.2.2.1⟩)]
        refine type16_no _ _ _ _ _ _ _ _ _ _ _ _ _ w W sb l _ _ _ _ rfl rfl rfl hs _ rfl ?_ rfl
        rw [Bool.eq_false_iff]
        intro h
        simp only [Bool.and_eq_true, n1, n2, beq_iff_eq, and_assoc] at h
        exact hc1 h
    rw [if_neg k16]
    by_cases k17 : f.kind = 17
    · rw [if_pos k17, k17]
      have hpt := parts_any S D dv f.kids v.list ao ca vo vc w sb r hr hS hf (hv.more (by omega)) (fun g go gc hg hle hrow u uo uc h1 h2 => fits47 h1 (hkid g go gc hg hle hrow u uo uc dv h1 h2))
      refine type17 _ _ _ _ _ _ _ _ _ _ _ _ _ w W sb l _ _ _ _ rfl rfl rfl hs _ hl0 hl1 hpt ?_
      by_cases hc1 : v.num = 0 ∧ v.text.size = 0
      · rw [if_pos (show ((v.num == 0) && v.text.toList.isEmpty) = true by simp only [Bool.and_eq_true, n1, n2]; exact hc1)]
        exact ite_iff (by simp [hc1.1, hc1.2])
      · rw [if_neg (fun h => hc1 ⟨h.1, h.2.1⟩), if_neg (fun h => hc1 (by simp only [Bool.and_eq_true, n1, n2] at h; exact h))]
    rw [if_neg k17]
    by_cases k18 : f.kind = 18
    · rw [if_pos k18, k18]
      have hch : FitC w sb 92 (.slice ao f.kids.length ca) (.agg #[.bool false, .int .i64 v.num, .string v.text, .slice vo v.list.length vc]) (fun l => if 0 ≤ v.num ∧ v.num < (f.kids.length : Int) ∧ v.list.length = 1 then weigh (r (f.kids.getD v.num.toNat default)) v.list.head! l else none) := by
        intro W l hs hl0 hl1
        dsimp only
        by_cases hc1 : 0 ≤ v.num ∧ v.num < (f.kids.length : Int) ∧ v.list.length = 1
        · rw [if_pos hc1]
          obtain ⟨j, hj⟩ : ∃ j : Nat, (j : Int) = v.num := ⟨v.num.toNat, by omega⟩
          have hjl : j < f.kids.length := by omega
          have hfne : f.kids ≠ [] := fun h => by rw [h] at hjl; simp at hjl
          obtain ⟨u, hu⟩ := List.length_eq_one_iff.1 hc1.2.2
          obtain ⟨kb, ko, rfl, hb, hi⟩ := hf.2 hfne
          obtain ⟨go, gc, hc, hle, hrow⟩ := hi j hjl
          have hv' := hv.more (e := dv + 1) (by omega)
          obtain ⟨eb, eo, rfl, heb, hei⟩ := hv'.2 (by rw [hu]; simp)
          obtain ⟨uo, uc, hce, hule, huok, hurow⟩ := hei 0 (by omega)
          have hu0 : v.list[0]'(by omega) = u := by simp [hu]
          rw [hu0] at hce hule huok hurow
          simp only [Nat.zero_mul, Nat.add_zero] at hce
          have hgd : f.kids.getD v.num.toNat default = f.kids[j] := by
            rw [show v.num.toNat = j by omega, List.getD_eq_getElem?_getD, List.getElem?_eq_getElem hjl]
            rfl
          have hhd : v.list.head! = u := by rw [hu]; rfl
          rw [hgd, hhd, ← hj, hc1.2.2]
          have hcw := hc.kept (hs.kp.block kb (hS kb hb).1 (hS kb hb).2)
          have hcv := hce.kept (hs.kp.block eb (hS eb heb).1 (hS eb heb).2)
          exact choice_yes _ _ _ j _ _ kb ko eb eo _ _ _ _ _ _ _ _ _ _ _ _ _ _ _ w W sb l _ _ hs hl0 hl1 hjl hfl rfl (hS kb hb).2 (hS eb heb).2 hcw.c0 hcw.c1 hcw.c2 hcw.c3 hcw.c4 hcw.c5 hcw.c6 hcv.c0 hcv.c1 hcv.c2 hcv.c3 (fits47 huok (hkid _ _ _ (List.getElem_mem hjl) hle hrow u uo uc dv huok hurow))
        · rw [if_neg hc1]
          exact choice_no _ _ _ _ _ _ _ _ _ w W sb l _ hs hfl hvl (by omega) rfl
      refine type18 _ _ _ _ _ _ _ _ _ _ _ _ _ w W sb l _ _ _ _ rfl rfl rfl hs _ hl0 hl1 hch ?_
      by_cases hc1 : v.text.size = 0
      · rw [if_pos (n2.2 hc1)]
        exact ite_iff (by simp [hc1])
      · rw [if_neg (fun h => hc1 h.1), if_neg (fun h => hc1 (n2.1 h))]
    rw [if_neg k18]
    by_cases k19 : f.kind = 19 ∨ f.kind = 20
    · rw [if_pos k19]
      have hne := tab_kid hT (by omega)
      obtain ⟨kb, ko, rfl, hkb, go, gc, hc, hle, hrow⟩ := kid hne
      have hF := hkid _ _ _ (hmem hne) hle hrow v vo vc dv hok hv
      rw [hn] at hF
      rcases k19 with k19 | k20
      · rw [k19]
        exact type19 _ _ _ _ _ _ _ _ _ _ _ _ _ _ _ _ _ _ _ _ _ _ _ w W sb l _ _ hs hl0 hl1 (head_get hne).1 rfl hkb hc.c0 hc.c1 hc.c2 hc.c3 hc.c4 hc.c5 hc.c6 hF
      · rw [k20]
        exact type20 _ _ _ _ _ _ _ _ _ _ _ _ _ _ _ _ _ _ _ _ _ _ _ w W sb l _ _ hs hl0 hl1 (head_get hne).1 rfl hkb hc.c0 hc.c1 hc.c2 hc.c3 hc.c4 hc.c5 hc.c6 hF
    rw [if_neg k19]
    refine type_num _ _ _ _ _ _ _ _ _ _ _ _ _ _ w W sb l _ _ _ _ rfl rfl rfl hs (by omega) _ rfl ?_
    have h64 := hok.1
    exact ite_iff (by simp only [Bool.and_eq_true, n2, n3]; exact ⟨fun h => ⟨⟨h.1, h.2.1⟩, h.2.2.2⟩, fun h => ⟨h.1.1, h.1.2, h64, h.2⟩⟩)
/-- all depths -/
theorem type_any (S : Nat → Prop) (w : World) (sb : Nat) (hS : ∀ b, S b → b < w.heap.size ∧ b ≠ sb)
    (hU : ∀ (s : ByteArray), s.size ≤ big → ∀ W', Keeps w W' (fun k => k = sb) → Calls Tryd.prog 89 #[.string s] W' fun e w' => e = .returned (.bool (Lib.validD s.data.toList)) ∧ Gr W' w') :
    ∀ (D : Nat) (f : FT) (ao : Option Addr) (ca : Nat), RowAt S w D ao f.kids → okF (D + 1) f → ∀ (v : VT) (vo : Option Addr) (vc dv : Nat), VOk v → VRow S w dv vo v.list →
      FitC w sb 70 (.agg #[.string f.name, .bool f.nul, .int .i64 f.kind, .int .i64 f.width, .int .i64 f.id, .int .i64 f.index, .slice ao f.kids.length ca]) (.agg #[.bool v.nul, .int .i64 v.num, .string v.text, .slice vo v.list.length vc]) (fitsT (D + 1) f v)
  | 0, f, ao, ca, hf, ho, v, vo, vc, dv, hok, hv => by
    have hk : f.kids = [] := hf
    exact type_step S 0 w sb hS hU f ao ca (fitsT 0) (falls_fits 0) (hf.more (by omega)) ho.1 (fun g go gc hg => by rw [hk] at hg; cases hg) v vo vc dv hok hv
  | D + 1, f, ao, ca, hf, ho, v, vo, vc, dv, hok, hv =>
    type_step S D w sb hS hU f ao ca (fitsT (D + 1)) (falls_fits (D + 1)) hf ho.1 (fun g go gc hg hle hrow u uo uc du h1 h2 => type_any S w sb hS hU D g go gc hrow (ho.2 g hg) u uo uc du h1 h2) v vo vc dv hok hv
end Go.Proofs.YtcfdkadhclickaaDoor.Kit
