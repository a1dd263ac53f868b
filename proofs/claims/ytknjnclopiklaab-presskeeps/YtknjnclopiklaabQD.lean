import Derived.Test.YtknjnclopiklaabQC
namespace Go.Proofs.Ytknjnclopiklaab.Kit
open Go.RowKit Go.Shelf Go.Deep
set_option linter.unusedVariables false
attribute [local go_sem] run_store_func

/-! ### what has come out, in a variable of its own -/
theorem row5_ne {W : World} {t n B : Nat} {v : Value} {xs : List Value} {c : Array Value} (h : W.ownsRow 0 5 1 v n xs) (hB : W.heap[B]? = some (.cells c t)) (ht : t ≠ 5) : v.ownBlock ≠ some B := fun e => by
  rcases h.2 with ⟨rfl, _⟩ | ⟨g, cap, cur, rfl, _, hg, _⟩
  · simp [Value.ownBlock] at e
  · simp [Value.ownBlock] at e
    subst e
    rw [hg] at hB
    simp at hB
    exact ht hB.2.symm
structure Out (w : World) (out : List UInt8) (V : World) : Prop where
  gr : Gr w V
  box : ∃ vo vc m, V.heap[w.heap.size]? = some (.cells #[.slice vo m vc] 22) ∧ Byts w V vo vc m out
theorem Out.kept {w V V' : World} {out : List UInt8} (h : Out w out V) (g : Gr V V') : Out w out V' := by
  obtain ⟨vo, vc, m, h1, h2⟩ := h.box
  exact ⟨h.gr.trans g (fun _ _ h => h), vo, vc, m, (g.block _ (lt_of_heap h1) id).trans h1, h2.gr' g⟩
set_option maxRecDepth 100000 in
set_option maxHeartbeats 4000000 in
theorem take20 {w V : World} {bo : Option Addr} {bc : Nat} {out l : List UInt8} {again back : Nat} (h : Out w out V) (hl : BytesAt V bo l) (hm : out.length + l.length + again ≤ 65536) (hbk : back ≤ out.length + l.length) (hag : 0 < again → 0 < back) :
    Calls Try.prog 16 #[.agg #[.slice bo l.length bc, .int .i64 (again : Int), .int .i64 (back : Int)], .pointer (some ⟨w.heap.size, 0, none⟩)] V fun e w' => e = .returned (.tuple #[]) ∧ Out w (layBack back again (out ++ l)) w' := by
  obtain ⟨vo, vc, m, hO, hb⟩ := h.box
  have hml := hb.len
  have gA := gr_alloc V (.cells #[.slice bo l.length bc, .int .i64 (again : Int), .int .i64 (back : Int)] 42)
  have hO1 := (gA.block _ (lt_of_heap hO) id).trans hO
  have hbx := heap_alloc_new V (.cells #[.slice bo l.length bc, .int .i64 (again : Int), .int .i64 (back : Int)] 42)
  have HLay := hidM (lay_any (bc := bc) (again := again) (back := back) (hb.gr' gA) (hl.gr gA) (by omega) (by omega) hag)
  obtain ⟨p0, p1, p2⟩ := ce3 hbx
  have d0 := ce1 hO1
  have HO1 := hidM hO1
  have HNe := hidM (row5_ne (hb.gr' gA).own hO1 (by decide))
  obtain ⟨B, hB⟩ : ∃ B, B = w.heap.size := ⟨_, rfl⟩
  obtain ⟨n, hn⟩ : ∃ n, n = l.length := ⟨_, rfl⟩
  rw [← hB] at d0 HO1 HNe ⊢
  rw [← hn] at p0 p1 p2 HLay d0 HO1 ⊢
  have HBw := hidM hB
  clear hO hb h hl hO1 hbx gA hml hB hn
  go_enter Try.func16, Try.ntmps16
  go_wp2_with (go_at_call 17; refine Hid.out ?_)
  unfold Hid
  refine Calls.mono HLay.out ?_
  rintro e V2 ⟨vo2, vc2, rfl, hap⟩
  obtain ⟨hO2, hne2⟩ := hap.box HO1.out HNe.out
  have hb2 := hap.b
  have HO2 := hidM hO2
  have HB2 := hidM hb2
  have HN2 := hidM hne2
  have e0 := ce1 hO2
  have e1 := frz hO2 0
  clear hap hO2 hb2 hne2 p0 p1 p2 d0 HLay
  have hNext : Out w (layBack back again (out ++ l)) (V2.setCell ⟨B, 0, none⟩ (.slice vo2 (m + n + again) vc2)) := by
    have k : Keeps V2 (V2.setCell ⟨B, 0, none⟩ (.slice vo2 (m + n + again) vc2)) (fun k => k = B) := (Keeps.refl V2 (fun k => k = B)).setCell (p := ⟨B, 0, none⟩) (fun _ => rfl) _
    have hg : Gr w (V2.setCell ⟨B, 0, none⟩ (.slice vo2 (m + n + again) vc2)) := HB2.out.gr.trans k (fun j hj e => by have := HBw.out; omega)
    refine ⟨hg, vo2, vc2, m + n + again, ?_, ⟨ownsRow_setCell_other HB2.out.own HN2.out _, hg, HB2.out.new⟩⟩
    rw [← HBw.out]
    exact one_setCell HO2.out
  have HNext := hidM hNext
  clear hNext
  go_wp2_with fail
  go_end0
  exact ⟨rfl, HNext.out⟩

def sliceLen : Value → Nat
  | .slice _ n _ => n
  | _ => 0
theorem firstI_bound (how : Int) (rest : List UInt8) : (0 < rest.length → 0 < (firstI how rest).size) ∧ (firstI how rest).bytes.length ≤ rest.length ∧ (firstI how rest).again ≤ 1000 ∧ (0 < (firstI how rest).again → 0 < (firstI how rest).back) := by
  have hc : (rest.getD 0 0).toNat < 256 := UInt8.toNat_lt _
  refine ⟨fun h => by rw [firstI_size]; exact sizeI_pos how _ h, ?_⟩
  unfold firstI
  obtain ⟨c, hcd⟩ : ∃ c, c = (rest.getD 0 0).toNat := ⟨_, rfl⟩
  simp only [← hcd]
  rw [← hcd] at hc
  split
  · simp
  split
  · simp
  split
  · simp; omega
  split
  · simp; omega
  · simp; omega

set_option maxRecDepth 100000 in
set_option maxHeartbeats 4000000 in
theorem walk20 {w W : World} {ao : Option Addr} {ca : Nat} {O : Nat} {bs : List UInt8} (how : Int) (most : Nat) (R : List UInt8 → World → Prop) (hRg : ∀ out V, R out V → Gr w V) (hRk : ∀ out V V', R out V → Gr V V' → R out V')
    (h : BytesAt w ao bs) (hca : bs.length ≤ ca) (hl : bs.length ≤ 140737488355328) (hmost : most ≤ 65536) (h0 : R [] W)
    (hT : ∀ V bo bc out l again back, R out V → BytesAt V bo l → out.length + l.length + again ≤ most → back ≤ out.length + l.length → (0 < again → 0 < back) → Calls Try.prog 16 #[.agg #[.slice bo l.length bc, .int .i64 (again : Int), .int .i64 (back : Int)], .pointer (some ⟨O, 0, none⟩)] V fun e w' => e = .returned (.tuple #[]) ∧ R (layBack back again (out ++ l)) w') :
    Calls Try.prog 15 #[.int .i64 how, .slice ao bs.length ca, .int .i64 (most : Int), .func (.func 16) #[] #[.pointer (some ⟨O, 0, none⟩)]] W fun e w' => e = .returned (.tuple #[.int .i64 ((unp how most bs.length [] bs).2.length : Int), .int .i64 (unp how most bs.length [] bs).1]) ∧ Gr w w' ∧ ((unp how most bs.length [] bs).1 = 0 → R (unp how most bs.length [] bs).2 w') := by
  have HRg := hidM hRg
  have HRk := hidM hRk
  have HTk := hidM hT
  have H0 := hidM h0
  have HA := hidM h
  obtain ⟨N, hN⟩ : ∃ N, N = bs.length := ⟨_, rfl⟩
  have HN := hidM hN
  rw [← hN] at hca hl
  rw [show Value.slice ao bs.length ca = Value.slice ao N ca by rw [hN]]
  clear h hN hRg hRk hT h0
  go_enter Try.func15, Try.ntmps15
  go_wp2_with fail
  go_loopw [1, 10] (fun v p wr => ∃ (aj : Option Addr) (n cj k : Nat), n ≤ cj ∧ n ≤ N ∧ k ≤ most ∧ v = .slice aj n cj ∧ p = .int .i64 (k : Int) ∧ Hid (∃ out rest f, out.length = k ∧ rest.length = n ∧ R out wr ∧ BytesAt w aj rest ∧ unp how most f out rest = unp how most bs.length [] bs ∧ n ≤ f)) (fun v _ _ => sliceLen v)
  case atStart => exact ⟨ao, N, ca, 0, hca, by omega, by omega, rfl, rfl, [], bs, bs.length, rfl, by have := HN.out; omega, H0.out, HA.out, rfl, by have := HN.out; omega⟩
  case round =>
    obtain ⟨aj, n, cj, k, hnc, hnN, hk, rfl, rfl, HR⟩ := hrel
    obtain ⟨out, rest, f, hout, hrest, hR, hB, hU, hf⟩ := HR.out
    have HRo := hidM hR
    have HBr := hidM hB
    have HT := hidM hU
    have HOut := hidM hout
    have HRest := hidM hrest
    have HF := hidM hf
    clear hR hB hU HR hout hrest hf
    by_cases c : 0 < n
    rotate_left
    · have cI : ¬ (0 : Int) < (n : Int) := by omega
      have hn0 : rest = [] := List.eq_nil_of_length_eq_zero (by have := HRest.out; omega)
      have HU : Hid (unp how most bs.length [] bs = (0, out)) := by show _ = _; rw [← HT.out, hn0]; exact unp_done _ _ _ _
      clear hn0
      go_wp2_with fail
      refine bodyPost_ret (v := .tuple #[.int .i64 (k : Int), .int .i64 0]) ?_ rfl ⟨by rw [HU.out, HOut.out], HRg.out _ _ HRo.out, fun _ => by rw [HU.out]; exact HRo.out⟩
      simp [results, Try.f15, go_sem]
    have cI : (0 : Int) < (n : Int) := by omega
    have hne : rest ≠ [] := fun e => by have := HRest.out; rw [e] at this; simp at this; omega
    have HFi := hidM (first_any (ca := cj) how (HBr.out.gr (HRg.out _ _ HRo.out)) hne (by rw [HRest.out]; exact hnc) (by rw [HRest.out]; omega))
    rw [HRest.out] at HFi
    have HNe := hidM hne
    obtain ⟨it, hit⟩ : ∃ it, it = firstI how rest := ⟨_, rfl⟩
    have hitB := firstI_bound how rest
    rw [← hit] at HFi hitB
    rw [HRest.out] at hitB
    obtain ⟨hz0, hz1, hz2, hz3⟩ := hitB
    have HIt := hidM hit
    clear hne hit
    obtain ⟨sz, hsz⟩ : ∃ x, x = it.size := ⟨_, rfl⟩
    obtain ⟨ag, hag⟩ : ∃ x, x = it.again := ⟨_, rfl⟩
    obtain ⟨bk, hbk⟩ : ∃ x, x = it.back := ⟨_, rfl⟩
    obtain ⟨nb, hnb⟩ : ∃ x, x = it.bytes.length := ⟨_, rfl⟩
    rw [← hsz, ← hag, ← hbk, ← hnb] at HFi
    rw [← hsz] at hz0
    rw [← hnb] at hz1
    rw [← hag] at hz2
    rw [← hag, ← hbk] at hz3
    have HSz := hidM hsz
    have HAg := hidM hag
    have HBk := hidM hbk
    have HNb := hidM hnb
    clear hsz hag hbk hnb
    go_wp2_with (go_at_call 30; refine Hid.out ?_)
    unfold Hid
    refine Calls.mono HFi.out ?_
    rintro e V ⟨bo, bc, rfl, hpart, hg⟩
    have HRv := hidM (HRk.out _ _ _ HRo.out (hg.alloc (.cells #[.slice bo nb bc, .int .i64 (ag : Int), .int .i64 (bk : Int)] 42)))
    have HPart := hidM hpart
    obtain ⟨p0, p1, p2⟩ := ce3 (heap_alloc_new V (.cells #[.slice bo nb bc, .int .i64 (ag : Int), .int .i64 (bk : Int)] 42))
    clear hpart hg HFi
    have HGv := hidM (HRg.out _ _ HRv.out)
    by_cases c1 : n < sz
    · have c1I : (n : Int) < (sz : Int) := by omega
      have HU : Hid (unp how most bs.length [] bs = (60, [])) := by show _ = _; rw [← HT.out]; exact unp_cut HNe.out (by have := HRest.out; have := HF.out; omega) (by rw [← HIt.out, ← HSz.out, HRest.out]; exact c1)
      go_wp2_with fail
      refine bodyPost_ret (v := .tuple #[.int .i64 0, .int .i64 60]) ?_ rfl ⟨by rw [HU.out]; rfl, HGv.out, fun h => by rw [HU.out] at h; cases h⟩
      simp [results, Try.f15, go_sem]
    have c1I : ¬ (n : Int) < (sz : Int) := by omega
    by_cases c2 : k + nb < bk
    · have c2I : (k : Int) + (nb : Int) < (bk : Int) := by omega
      have HU : Hid (unp how most bs.length [] bs = (63, [])) := by show _ = _; rw [← HT.out]; exact unp_back HNe.out (by have := HRest.out; have := HF.out; omega) (by rw [← HIt.out, ← HSz.out, HRest.out]; exact c1) (by rw [← HIt.out, HOut.out, ← HNb.out, ← HBk.out]; exact c2)
      go_wp2_with fail
      refine bodyPost_ret (v := .tuple #[.int .i64 0, .int .i64 63]) ?_ rfl ⟨by rw [HU.out]; rfl, HGv.out, fun h => by rw [HU.out] at h; cases h⟩
      simp [results, Try.f15, go_sem]
    have c2I : ¬ (k : Int) + (nb : Int) < (bk : Int) := by omega
    by_cases c3 : most < k + (nb + ag)
    · have c3I : (most : Int) < (k : Int) + ((nb : Int) + (ag : Int)) := by omega
      have HU : Hid (unp how most bs.length [] bs = (61, [])) := by show _ = _; rw [← HT.out]; exact unp_more HNe.out (by have := HRest.out; have := HF.out; omega) (by rw [← HIt.out, ← HSz.out, HRest.out]; exact c1) (by rw [← HIt.out, HOut.out, ← HNb.out, ← HBk.out]; exact c2) (by rw [← HIt.out, HOut.out, ← HNb.out, ← HAg.out]; omega)
      go_wp2_with fail
      refine bodyPost_ret (v := .tuple #[.int .i64 0, .int .i64 61]) ?_ rfl ⟨by rw [HU.out]; rfl, HGv.out, fun h => by rw [HU.out] at h; cases h⟩
      simp [results, Try.f15, go_sem]
    have c3I : ¬ (most : Int) < (k : Int) + ((nb : Int) + (ag : Int)) := by omega
    have HTl := hidM (HTk.out (V.alloc (.cells #[.slice bo nb bc, .int .i64 (ag : Int), .int .i64 (bk : Int)] 42)) bo bc out it.bytes ag bk HRv.out (HPart.out.bytes (HBr.out.gr HGv.out)) (by rw [HOut.out, ← HNb.out]; omega) (by rw [HOut.out, ← HNb.out]; omega) hz3)
    rw [← HNb.out] at HTl
    obtain ⟨f', hn1, hn2⟩ := unp_next (how := how) (most := most) (f := f) (out := out) HNe.out (by have := HRest.out; have := HF.out; omega) (by rw [← HIt.out, ← HSz.out, HRest.out]; exact c1) (by rw [← HIt.out, HOut.out, ← HNb.out, ← HBk.out]; exact c2) (by rw [← HIt.out, HOut.out, ← HNb.out, ← HAg.out]; omega)
    rw [← HIt.out] at hn1 hn2
    have HN1 := hidM hn1
    have HN2 := hidM hn2
    clear hn1 hn2
    obtain ⟨b, ob, haj, hcs⟩ := HBr.out.at HNe.out
    subst haj
    have HCs := hidM hcs
    clear hcs
    have hsI : (0 : Int) ≤ (sz : Int) := by omega
    have hsJ : (sz : Int) ≤ (n : Int) := by omega
    go_wp2_with (go_at_call 16; refine Hid.out ?_)
    unfold Hid
    refine Calls.mono HTl.out ?_
    rintro e V2 ⟨rfl, hR2⟩
    have HNx : Hid (∀ a', (a' = some ⟨b, ob + sz, none⟩ ∨ n = sz) → ∃ out rest f, out.length = k + (nb + ag) ∧ rest.length = n - sz ∧ R out V2 ∧ BytesAt w a' rest ∧ unp how most f out rest = unp how most bs.length [] bs ∧ n - sz ≤ f) := fun a' ha => by
      refine ⟨layI it out, rest.drop it.size, f', by rw [layI_len, HOut.out, ← HNb.out, ← HAg.out]; omega, by rw [List.length_drop, HRest.out, ← HSz.out], ?_, ?_, ?_, ?_⟩
      · unfold layI; rw [← HBk.out, ← HAg.out]; exact hR2
      · intro hn
        have ha : a' = some ⟨b, ob + sz, none⟩ := by
          rcases ha with ha | ha
          · exact ha
          · exact absurd (List.eq_nil_of_length_eq_zero (by rw [List.length_drop, HRest.out, ← HSz.out]; omega)) hn
        refine ⟨b, ob + sz, ha, fun i hi => ?_⟩
        have hi' := hi
        rw [List.length_drop, HRest.out, ← HSz.out] at hi'
        rw [drop_get hi, ← HSz.out, Nat.add_assoc, HCs.out (sz + i) (by rw [HRest.out]; omega)]
      · rw [← HT.out, HN1.out]
      · have := HN2.out; rw [List.length_drop, HRest.out, ← HSz.out] at this; exact this
    clear hR2 HTl p0 p1 p2
    by_cases c4 : cj = sz
    · have hnz : n = sz := by omega
      go_wp2_with fail
      go_roundw
      case rel => exact ⟨some ⟨b, ob, none⟩, n - sz, cj - sz, k + (nb + ag), by omega, by omega, by omega, by rw [show n - sz = 0 by omega, show cj - sz = 0 by omega], by simp, HNx.out _ (.inr hnz)⟩
      case measure => simp [sliceLen]; omega
    · go_wp2_with fail
      go_roundw
      case rel => exact ⟨some ⟨b, ob + sz, none⟩, n - sz, cj - sz, k + (nb + ag), by omega, by omega, by omega, by simp, by simp, HNx.out _ (.inl rfl)⟩
      case measure => simp [sliceLen]; omega

set_option maxRecDepth 100000 in
set_option maxHeartbeats 4000000 in
theorem walk22 {w W : World} {ao : Option Addr} {ca : Nat} {bs : List UInt8} (how : Int) (most : Nat) (R : List UInt8 → World → Prop) (hRg : ∀ out V, R out V → Gr w V) (hRk : ∀ out V V', R out V → Gr V V' → R out V')
    (h : BytesAt w ao bs) (hca : bs.length ≤ ca) (hl : bs.length ≤ 140737488355328) (hmost : most ≤ 65536) (h0 : R [] W)
    (hT : ∀ V bo bc out l again back, R out V → BytesAt V bo l → out.length + l.length + again ≤ most → back ≤ out.length + l.length → (0 < again → 0 < back) → Calls Try.prog 21 #[.agg #[.slice bo l.length bc, .int .i64 (again : Int), .int .i64 (back : Int)]] V fun e w' => e = .returned (.tuple #[]) ∧ R (layBack back again (out ++ l)) w') :
    Calls Try.prog 15 #[.int .i64 how, .slice ao bs.length ca, .int .i64 (most : Int), .func (.func 21) #[] #[]] W fun e w' => e = .returned (.tuple #[.int .i64 ((unp how most bs.length [] bs).2.length : Int), .int .i64 (unp how most bs.length [] bs).1]) ∧ Gr w w' ∧ ((unp how most bs.length [] bs).1 = 0 → R (unp how most bs.length [] bs).2 w') := by
  have HRg := hidM hRg
  have HRk := hidM hRk
  have HTk := hidM hT
  have H0 := hidM h0
  have HA := hidM h
  obtain ⟨N, hN⟩ : ∃ N, N = bs.length := ⟨_, rfl⟩
  have HN := hidM hN
  rw [← hN] at hca hl
  rw [show Value.slice ao bs.length ca = Value.slice ao N ca by rw [hN]]
  clear h hN hRg hRk hT h0
  go_enter Try.func15, Try.ntmps15
  go_wp2_with fail
  go_loopw [1, 10] (fun v p wr => ∃ (aj : Option Addr) (n cj k : Nat), n ≤ cj ∧ n ≤ N ∧ k ≤ most ∧ v = .slice aj n cj ∧ p = .int .i64 (k : Int) ∧ Hid (∃ out rest f, out.length = k ∧ rest.length = n ∧ R out wr ∧ BytesAt w aj rest ∧ unp how most f out rest = unp how most bs.length [] bs ∧ n ≤ f)) (fun v _ _ => sliceLen v)
  case atStart => exact ⟨ao, N, ca, 0, hca, by omega, by omega, rfl, rfl, [], bs, bs.length, rfl, by have := HN.out; omega, H0.out, HA.out, rfl, by have := HN.out; omega⟩
  case round =>
    obtain ⟨aj, n, cj, k, hnc, hnN, hk, rfl, rfl, HR⟩ := hrel
    obtain ⟨out, rest, f, hout, hrest, hR, hB, hU, hf⟩ := HR.out
    have HRo := hidM hR
    have HBr := hidM hB
    have HT := hidM hU
    have HOut := hidM hout
    have HRest := hidM hrest
    have HF := hidM hf
    clear hR hB hU HR hout hrest hf
    by_cases c : 0 < n
    rotate_left
    · have cI : ¬ (0 : Int) < (n : Int) := by omega
      have hn0 : rest = [] := List.eq_nil_of_length_eq_zero (by have := HRest.out; omega)
      have HU : Hid (unp how most bs.length [] bs = (0, out)) := by show _ = _; rw [← HT.out, hn0]; exact unp_done _ _ _ _
      clear hn0
      go_wp2_with fail
      refine bodyPost_ret (v := .tuple #[.int .i64 (k : Int), .int .i64 0]) ?_ rfl ⟨by rw [HU.out, HOut.out], HRg.out _ _ HRo.out, fun _ => by rw [HU.out]; exact HRo.out⟩
      simp [results, Try.f15, go_sem]
    have cI : (0 : Int) < (n : Int) := by omega
    have hne : rest ≠ [] := fun e => by have := HRest.out; rw [e] at this; simp at this; omega
    have HFi := hidM (first_any (ca := cj) how (HBr.out.gr (HRg.out _ _ HRo.out)) hne (by rw [HRest.out]; exact hnc) (by rw [HRest.out]; omega))
    rw [HRest.out] at HFi
    have HNe := hidM hne
    obtain ⟨it, hit⟩ : ∃ it, it = firstI how rest := ⟨_, rfl⟩
    have hitB := firstI_bound how rest
    rw [← hit] at HFi hitB
    rw [HRest.out] at hitB
    obtain ⟨hz0, hz1, hz2, hz3⟩ := hitB
    have HIt := hidM hit
    clear hne hit
    obtain ⟨sz, hsz⟩ : ∃ x, x = it.size := ⟨_, rfl⟩
    obtain ⟨ag, hag⟩ : ∃ x, x = it.again := ⟨_, rfl⟩
    obtain ⟨bk, hbk⟩ : ∃ x, x = it.back := ⟨_, rfl⟩
    obtain ⟨nb, hnb⟩ : ∃ x, x = it.bytes.length := ⟨_, rfl⟩
    rw [← hsz, ← hag, ← hbk, ← hnb] at HFi
    rw [← hsz] at hz0
    rw [← hnb] at hz1
    rw [← hag] at hz2
    rw [← hag, ← hbk] at hz3
    have HSz := hidM hsz
    have HAg := hidM hag
    have HBk := hidM hbk
    have HNb := hidM hnb
    clear hsz hag hbk hnb
    go_wp2_with (go_at_call 30; refine Hid.out ?_)
    unfold Hid
    refine Calls.mono HFi.out ?_
    rintro e V ⟨bo, bc, rfl, hpart, hg⟩
    have HRv := hidM (HRk.out _ _ _ HRo.out (hg.alloc (.cells #[.slice bo nb bc, .int .i64 (ag : Int), .int .i64 (bk : Int)] 42)))
    have HPart := hidM hpart
    obtain ⟨p0, p1, p2⟩ := ce3 (heap_alloc_new V (.cells #[.slice bo nb bc, .int .i64 (ag : Int), .int .i64 (bk : Int)] 42))
    clear hpart hg HFi
    have HGv := hidM (HRg.out _ _ HRv.out)
    by_cases c1 : n < sz
    · have c1I : (n : Int) < (sz : Int) := by omega
      have HU : Hid (unp how most bs.length [] bs = (60, [])) := by show _ = _; rw [← HT.out]; exact unp_cut HNe.out (by have := HRest.out; have := HF.out; omega) (by rw [← HIt.out, ← HSz.out, HRest.out]; exact c1)
      go_wp2_with fail
      refine bodyPost_ret (v := .tuple #[.int .i64 0, .int .i64 60]) ?_ rfl ⟨by rw [HU.out]; rfl, HGv.out, fun h => by rw [HU.out] at h; cases h⟩
      simp [results, Try.f15, go_sem]
    have c1I : ¬ (n : Int) < (sz : Int) := by omega
    by_cases c2 : k + nb < bk
    · have c2I : (k : Int) + (nb : Int) < (bk : Int) := by omega
      have HU : Hid (unp how most bs.length [] bs = (63, [])) := by show _ = _; rw [← HT.out]; exact unp_back HNe.out (by have := HRest.out; have := HF.out; omega) (by rw [← HIt.out, ← HSz.out, HRest.out]; exact c1) (by rw [← HIt.out, HOut.out, ← HNb.out, ← HBk.out]; exact c2)
      go_wp2_with fail
      refine bodyPost_ret (v := .tuple #[.int .i64 0, .int .i64 63]) ?_ rfl ⟨by rw [HU.out]; rfl, HGv.out, fun h => by rw [HU.out] at h; cases h⟩
      simp [results, Try.f15, go_sem]
    have c2I : ¬ (k : Int) + (nb : Int) < (bk : Int) := by omega
    by_cases c3 : most < k + (nb + ag)
    · have c3I : (most : Int) < (k : Int) + ((nb : Int) + (ag : Int)) := by omega
      have HU : Hid (unp how most bs.length [] bs = (61, [])) := by show _ = _; rw [← HT.out]; exact unp_more HNe.out (by have := HRest.out; have := HF.out; omega) (by rw [← HIt.out, ← HSz.out, HRest.out]; exact c1) (by rw [← HIt.out, HOut.out, ← HNb.out, ← HBk.out]; exact c2) (by rw [← HIt.out, HOut.out, ← HNb.out, ← HAg.out]; omega)
      go_wp2_with fail
      refine bodyPost_ret (v := .tuple #[.int .i64 0, .int .i64 61]) ?_ rfl ⟨by rw [HU.out]; rfl, HGv.out, fun h => by rw [HU.out] at h; cases h⟩
      simp [results, Try.f15, go_sem]
    have c3I : ¬ (most : Int) < (k : Int) + ((nb : Int) + (ag : Int)) := by omega
    have HTl := hidM (HTk.out (V.alloc (.cells #[.slice bo nb bc, .int .i64 (ag : Int), .int .i64 (bk : Int)] 42)) bo bc out it.bytes ag bk HRv.out (HPart.out.bytes (HBr.out.gr HGv.out)) (by rw [HOut.out, ← HNb.out]; omega) (by rw [HOut.out, ← HNb.out]; omega) hz3)
    rw [← HNb.out] at HTl
    obtain ⟨f', hn1, hn2⟩ := unp_next (how := how) (most := most) (f := f) (out := out) HNe.out (by have := HRest.out; have := HF.out; omega) (by rw [← HIt.out, ← HSz.out, HRest.out]; exact c1) (by rw [← HIt.out, HOut.out, ← HNb.out, ← HBk.out]; exact c2) (by rw [← HIt.out, HOut.out, ← HNb.out, ← HAg.out]; omega)
    rw [← HIt.out] at hn1 hn2
    have HN1 := hidM hn1
    have HN2 := hidM hn2
    clear hn1 hn2
    obtain ⟨b, ob, haj, hcs⟩ := HBr.out.at HNe.out
    subst haj
    have HCs := hidM hcs
    clear hcs
    have hsI : (0 : Int) ≤ (sz : Int) := by omega
    have hsJ : (sz : Int) ≤ (n : Int) := by omega
    go_wp2_with (go_at_call 21; refine Hid.out ?_)
    unfold Hid
    refine Calls.mono HTl.out ?_
    rintro e V2 ⟨rfl, hR2⟩
    have HNx : Hid (∀ a', (a' = some ⟨b, ob + sz, none⟩ ∨ n = sz) → ∃ out rest f, out.length = k + (nb + ag) ∧ rest.length = n - sz ∧ R out V2 ∧ BytesAt w a' rest ∧ unp how most f out rest = unp how most bs.length [] bs ∧ n - sz ≤ f) := fun a' ha => by
      refine ⟨layI it out, rest.drop it.size, f', by rw [layI_len, HOut.out, ← HNb.out, ← HAg.out]; omega, by rw [List.length_drop, HRest.out, ← HSz.out], ?_, ?_, ?_, ?_⟩
      · unfold layI; rw [← HBk.out, ← HAg.out]; exact hR2
      · intro hn
        have ha : a' = some ⟨b, ob + sz, none⟩ := by
          rcases ha with ha | ha
          · exact ha
          · exact absurd (List.eq_nil_of_length_eq_zero (by rw [List.length_drop, HRest.out, ← HSz.out]; omega)) hn
        refine ⟨b, ob + sz, ha, fun i hi => ?_⟩
        have hi' := hi
        rw [List.length_drop, HRest.out, ← HSz.out] at hi'
        rw [drop_get hi, ← HSz.out, Nat.add_assoc, HCs.out (sz + i) (by rw [HRest.out]; omega)]
      · rw [← HT.out, HN1.out]
      · have := HN2.out; rw [List.length_drop, HRest.out, ← HSz.out] at this; exact this
    clear hR2 HTl p0 p1 p2
    by_cases c4 : cj = sz
    · have hnz : n = sz := by omega
      go_wp2_with fail
      go_roundw
      case rel => exact ⟨some ⟨b, ob, none⟩, n - sz, cj - sz, k + (nb + ag), by omega, by omega, by omega, by rw [show n - sz = 0 by omega, show cj - sz = 0 by omega], by simp, HNx.out _ (.inr hnz)⟩
      case measure => simp [sliceLen]; omega
    · go_wp2_with fail
      go_roundw
      case rel => exact ⟨some ⟨b, ob + sz, none⟩, n - sz, cj - sz, k + (nb + ag), by omega, by omega, by omega, by simp, by simp, HNx.out _ (.inl rfl)⟩
      case measure => simp [sliceLen]; omega

end Go.Proofs.Ytknjnclopiklaab.Kit
