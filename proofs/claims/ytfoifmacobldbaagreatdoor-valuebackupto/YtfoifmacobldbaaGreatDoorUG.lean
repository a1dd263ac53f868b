import Derived.Test.YtfoifmacobldbaaGreatDoorRH
import Derived.Test.YtfoifmacobldbaaGreatDoorUF
set_option maxRecDepth 100000
set_option maxHeartbeats 4000000
namespace Go.Proofs.YtfoifmacobldbaaGreatDoor.Kit
open Go.RowKit Go.Shelf Go.Deep
set_option linter.unusedVariables false
set_option linter.unusedSimpArgs false
attribute [local go_sem] run_store_func
/-! ### Print 7 -/
def prE (mb fb : Bool) (T : List UInt8) : Int := if mb = false then 5 else if fb = false then 7 else if 65536 < T.length then 4 else 0
def prS (mb fb : Bool) (T : List UInt8) : List UInt8 := if prE mb fb T = 0 then T else []
theorem byts_nil (a u W : World) (g : Gr a W) (h : Fr a u W) : Byts (a, u) W none 0 0 [] := ⟨⟨rfl, .inl ⟨rfl, rfl⟩⟩, g, (fun g e => by cases e), h⟩
theorem cells_kp {V V' : World} (g : Gr V V') {W : World} {x0 x1 x2 x3 x4 x5 x6 y0 y1 y2 y3 : Value} (h : V.cell? ⟨W.heap.size, 0, none⟩ = some x0 ∧ V.cell? ⟨W.heap.size, 1, none⟩ = some x1 ∧ V.cell? ⟨W.heap.size, 2, none⟩ = some x2 ∧ V.cell? ⟨W.heap.size, 3, none⟩ = some x3 ∧ V.cell? ⟨W.heap.size, 4, none⟩ = some x4 ∧ V.cell? ⟨W.heap.size, 5, none⟩ = some x5 ∧ V.cell? ⟨W.heap.size, 6, none⟩ = some x6 ∧ V.cell? ⟨W.heap.size + 1, 0, none⟩ = some y0 ∧ V.cell? ⟨W.heap.size + 1, 1, none⟩ = some y1 ∧ V.cell? ⟨W.heap.size + 1, 2, none⟩ = some y2 ∧ V.cell? ⟨W.heap.size + 1, 3, none⟩ = some y3) :
    V'.cell? ⟨W.heap.size, 0, none⟩ = some x0 ∧ V'.cell? ⟨W.heap.size, 1, none⟩ = some x1 ∧ V'.cell? ⟨W.heap.size, 2, none⟩ = some x2 ∧ V'.cell? ⟨W.heap.size, 3, none⟩ = some x3 ∧ V'.cell? ⟨W.heap.size, 4, none⟩ = some x4 ∧ V'.cell? ⟨W.heap.size, 5, none⟩ = some x5 ∧ V'.cell? ⟨W.heap.size, 6, none⟩ = some x6 ∧ V'.cell? ⟨W.heap.size + 1, 0, none⟩ = some y0 ∧ V'.cell? ⟨W.heap.size + 1, 1, none⟩ = some y1 ∧ V'.cell? ⟨W.heap.size + 1, 2, none⟩ = some y2 ∧ V'.cell? ⟨W.heap.size + 1, 3, none⟩ = some y3 :=
  ⟨g.cell' h.1 id, g.cell' h.2.1 id, g.cell' h.2.2.1 id, g.cell' h.2.2.2.1 id, g.cell' h.2.2.2.2.1 id, g.cell' h.2.2.2.2.2.1 id, g.cell' h.2.2.2.2.2.2.1 id, g.cell' h.2.2.2.2.2.2.2.1 id, g.cell' h.2.2.2.2.2.2.2.2.1 id, g.cell' h.2.2.2.2.2.2.2.2.2.1 id, g.cell' h.2.2.2.2.2.2.2.2.2.2 id⟩
theorem print7 (f : FT) (ao : Option Addr) (ca : Nat) (v : VT) (vo : Option Addr) (vc : Nat) (w : World) (mb fb : Bool) (T : List UInt8)
    (h21 : ∀ W, Gr w W → Calls Tryz.prog 21 #[.agg #[.string f.name, .bool f.nul, .int .i64 f.kind, .int .i64 f.width, .int .i64 f.id, .int .i64 f.index, .slice ao f.kids.length ca]] W fun e w' => e = .returned (.bool mb) ∧ Gr W w')
    (h22 : mb = true → ∀ W, Gr w W → Calls Tryz.prog 22 #[.agg #[.string f.name, .bool f.nul, .int .i64 f.kind, .int .i64 f.width, .int .i64 f.id, .int .i64 f.index, .slice ao f.kids.length ca], .agg #[.bool v.nul, .int .i64 v.num, .string v.text, .slice vo v.list.length vc]] W fun e w' => e = .returned (.bool fb) ∧ Gr W w')
    (h23 : mb = true → fb = true → (T.length < 90000000000 ∧ 0 < T.length) ∧ ∀ W, Gr w W → PrC W f ao ca v vo vc T) :
    ∀ W, Gr w W → Calls Tryz.prog 7 #[.agg #[.string f.name, .bool f.nul, .int .i64 f.kind, .int .i64 f.width, .int .i64 f.id, .int .i64 f.index, .slice ao f.kids.length ca], .agg #[.bool v.nul, .int .i64 v.num, .string v.text, .slice vo v.list.length vc]] W fun e W' => e = .returned (.tuple #[.string ⟨(prS mb fb T).toArray⟩, .int .i64 (prE mb fb T)]) ∧ Gr W W' := by
  intro W g
  have HG := hidM g
  have H21 := hidM h21
  have H22 := hidM h22
  have H23 := hidM h23
  obtain ⟨V, hV⟩ : ∃ V, (W.alloc (.cells #[.string f.name, .bool f.nul, .int .i64 f.kind, .int .i64 f.width, .int .i64 f.id, .int .i64 f.index, .slice ao f.kids.length ca] 26)).alloc (.cells #[.bool v.nul, .int .i64 v.num, .string v.text, .slice vo v.list.length vc] 29) = V := ⟨_, rfl⟩
  have gv : Gr W V := by rw [← hV]; exact (gr_alloc W _).trans (gr_alloc _ _) (fun _ _ h => h)
  have hc : V.cell? ⟨W.heap.size, 0, none⟩ = some (.string f.name) ∧ V.cell? ⟨W.heap.size, 1, none⟩ = some (.bool f.nul) ∧ V.cell? ⟨W.heap.size, 2, none⟩ = some (.int .i64 f.kind) ∧ V.cell? ⟨W.heap.size, 3, none⟩ = some (.int .i64 f.width) ∧ V.cell? ⟨W.heap.size, 4, none⟩ = some (.int .i64 f.id) ∧ V.cell? ⟨W.heap.size, 5, none⟩ = some (.int .i64 f.index) ∧ V.cell? ⟨W.heap.size, 6, none⟩ = some (.slice ao f.kids.length ca) ∧ V.cell? ⟨W.heap.size + 1, 0, none⟩ = some (.bool v.nul) ∧ V.cell? ⟨W.heap.size + 1, 1, none⟩ = some (.int .i64 v.num) ∧ V.cell? ⟨W.heap.size + 1, 2, none⟩ = some (.string v.text) ∧ V.cell? ⟨W.heap.size + 1, 3, none⟩ = some (.slice vo v.list.length vc) := by
    have e := heap_alloc_new (W.alloc (.cells #[.string f.name, .bool f.nul, .int .i64 f.kind, .int .i64 f.width, .int .i64 f.id, .int .i64 f.index, .slice ao f.kids.length ca] 26)) (.cells #[.bool v.nul, .int .i64 v.num, .string v.text, .slice vo v.list.length vc] 29)
    rw [show (W.alloc (.cells #[.string f.name, .bool f.nul, .int .i64 f.kind, .int .i64 f.width, .int .i64 f.id, .int .i64 f.index, .slice ao f.kids.length ca] 26)).heap.size = W.heap.size + 1 by simp, hV] at e
    have e2 : V.heap[W.heap.size]? = some (.cells #[.string f.name, .bool f.nul, .int .i64 f.kind, .int .i64 f.width, .int .i64 f.id, .int .i64 f.index, .slice ao f.kids.length ca] 26) := by rw [← hV]; exact ((gr_alloc _ _).block _ (by simp) id).trans (heap_alloc_new W _)
    simp [World.cell?, e, e2]
  have HC := hidM hc
  have HV := hidM hV
  have HGv := hidM gv
  clear h21 h22 h23 g hV gv hc
  go_enter Tryz.func7, Tryz.ntmps7
  go_wp2_with (go_at_call 21; refine Hid.out ?_)
  unfold Hid
  rw [HV.out]
  refine Calls.mono (H21.out _ (HG.out.trans HGv.out (fun _ _ h => h))) ?_
  rintro e w1 ⟨rfl, g1⟩
  have HG1 := hidM (HGv.out.trans g1 (fun _ _ h => h))
  have HC1 := hidM (cells_kp g1 HC.out)
  clear g1 HC
  cases mb with
  | false =>
    go_wp2_with fail
    go_ret2
    exact ⟨rfl, HG1.out⟩
  | true =>
    obtain ⟨p0, p1, p2, p3, p4, p5, p6, q0, q1, q2, q3⟩ := HC1.out
    go_wp2_with (go_at_call 22; refine Hid.out ?_)
    unfold Hid
    refine Calls.mono (H22.out (by first | rfl | trivial) _ (HG.out.trans HG1.out (fun _ _ h => h))) ?_
    rintro e w2 ⟨rfl, g2⟩
    have HG2 := hidM (HG1.out.trans g2 (fun _ _ h => h))
    have HC2 := hidM (cells_kp g2 HC1.out)
    clear g2 HC1 p0 p1 p2 p3 p4 p5 p6 q0 q1 q2 q3
    cases fb with
    | false =>
      go_wp2_with fail
      go_ret2
      exact ⟨rfl, HG2.out⟩
    | true =>
      obtain ⟨p0, p1, p2, p3, p4, p5, p6, q0, q1, q2, q3⟩ := HC2.out
      go_wp2_with (go_at_call 23; refine Hid.out ?_)
      unfold Hid
      refine Calls.mono ((H23.out (by first | rfl | trivial) (by first | rfl | trivial)).2 w2 (HG.out.trans HG2.out (fun _ _ h => h)) w2 w2 none 0 0 [] (byts_nil w2 w2 w2 (Keeps.refl _ _) (Fr.refl _ _)) (by have := (H23.out (by first | rfl | trivial) (by first | rfl | trivial)).1.1; omega)) ?_
      rintro e w3 ⟨vo1, vc1, n1, b1, rfl, hb, hq⟩
      have HB := hidM hb
      have HG3 : Hid (Gr W w3) := HG2.out.trans hb.gr (fun _ _ h => h)
      have hl := hb.len
      obtain ⟨q1', hq2⟩ := hq
      simp only [List.nil_append, List.length_nil, Nat.zero_add] at q1' hq2
      by_cases hlong : 65536 < n1
      · have hlI : (65536 : Int) < (n1 : Int) := by omega
        have hTl : 65536 < T.length := by
          rcases hq2 with h | h
          · rw [← h]; omega
          · exact h.2
        have HR : Hid (prE true true T = 4) := by
          show _ = _
          unfold prE
          rw [if_neg (by simp), if_neg (by simp), if_pos hTl]
        have HS : Hid (prS true true T = []) := by
          show _ = _
          unfold prS
          rw [HR.out]
          rfl
        clear hb hq2 q1' hl hTl
        go_wp2_with fail
        go_ret2
        exact ⟨by rw [HR.out, HS.out]; rfl, HG3.out⟩
      · have hlI : ¬ (65536 : Int) < (n1 : Int) := by omega
        have hT : b1 = T := by
          rcases hq2 with h | h
          · exact h
          · omega
        subst hT
        have HR : Hid (prE true true b1 = 0) := by
          show _ = _
          unfold prE
          rw [if_neg (by simp), if_neg (by simp), if_neg (by omega)]
        have HS : Hid (prS true true b1 = b1) := by
          show _ = _
          unfold prS
          rw [if_pos HR.out]
        by_cases h0 : n1 = 0
        · exfalso
          have := (H23.out (by first | rfl | trivial) (by first | rfl | trivial)).1.2
          omega
        · have hcv := bytes_string hb (by omega)
          clear hb hq2 q1' hl h0
          go_wp2_with fail
          go_ret2
          exact ⟨by rw [HR.out, HS.out]; rfl, HG3.out⟩
end Go.Proofs.YtfoifmacobldbaaGreatDoor.Kit
namespace Go.Proofs.YtfoifmacobldbaaGreatDoor.Kit
open Go.RowKit Go.Shelf Go.Deep
set_option linter.unusedVariables false
set_option linter.unusedSimpArgs false
/-! ### what fits, and how long its text is -/
theorem esc_len (c : UInt8) : (QE.esc c).length ≤ 4 := by
  unfold QE.esc QE.escaped
  repeat' split
  all_goals simp
theorem escs_len (l : List UInt8) : (l.flatMap QE.esc).length ≤ 4 * l.length := by
  induction l with
  | nil => simp
  | cons c l ih =>
    rw [List.flatMap_cons, List.length_append, List.length_cons]
    have := esc_len c
    omega
theorem nm_len (g : FT) : (QB.nm g).length = g.name.size := Array.length_toList
theorem tx_len (t : ByteArray) : t.data.toList.length = t.size := Array.length_toList
theorem fitsL_fit {r : VT → Int → Option Int} {P : VT → Prop} {p : VT → List UInt8} (h : ∀ v l l', r v l = some l' → P v ∧ ((p v).length : Int) + 70 ≤ 11 * (l - l')) : ∀ (xs : List VT) (l l' : Int), fitsL r xs l = some l' → (∀ x ∈ xs, P x) ∧ ((QB.joinC (xs.map p)).length : Int) ≤ 11 * (l - l')
  | [], l, l', e => by
    cases e
    exact ⟨fun x hx => (by cases hx), by simp [QB.joinC]⟩
  | x :: xs, l, l', e => by
    rw [fitsL] at e
    cases e1 : r x l with
    | none => rw [e1] at e; cases e
    | some l1 =>
      rw [e1] at e
      obtain ⟨h1, h2⟩ := h _ _ _ e1
      obtain ⟨h3, h4⟩ := fitsL_fit h xs l1 l' e
      refine ⟨fun y hy => ?_, ?_⟩
      · rcases List.mem_cons.1 hy with rfl | hy
        · exact h1
        · exact h3 y hy
      · cases xs with
        | nil =>
          have e2 : some l1 = some l' := e
          cases e2
          show ((p x).length : Int) ≤ _
          omega
        | cons y ys =>
          have e3 : QB.joinC ((x :: y :: ys).map p) = p x ++ 44 :: QB.joinC ((y :: ys).map p) := rfl
          rw [e3, List.length_append, List.length_cons]
          omega
theorem fitsP_fit {r : FT → VT → Int → Option Int} {P : FT → VT → Prop} {p : FT → VT → List UInt8} : ∀ (gs : List FT) (h : ∀ g ∈ gs, g.name.size ≤ 64 ∧ ∀ v l l', r g v l = some l' → P g v ∧ ((p g v).length : Int) + 70 ≤ 11 * (l - l')) (xs : List VT) (l l' : Int), xs.length = gs.length → fitsP r gs xs l = some l' → QB.All2 P gs xs ∧ ((QB.joinC (List.zipWith (fun g x => QB.nm g ++ 58 :: p g x) gs xs)).length : Int) ≤ 11 * (l - l')
  | [], h, [], l, l', _, e => by
    have e2 : some l = some l' := e
    cases e2
    exact ⟨trivial, by simp [QB.joinC]⟩
  | [], h, _ :: _, l, l', hl, _ => by simp at hl
  | _ :: _, h, [], l, l', hl, _ => by simp at hl
  | g :: gs, h, x :: xs, l, l', hl, e => by
    rw [fitsP] at e
    cases e1 : r g x l with
    | none => rw [e1] at e; cases e
    | some l1 =>
      rw [e1] at e
      obtain ⟨hg, hr⟩ := h g (by simp)
      obtain ⟨h1, h2⟩ := hr _ _ _ e1
      obtain ⟨h3, h4⟩ := fitsP_fit gs (fun g' hg' => h g' (by simp [hg'])) xs l1 l' (by simpa using hl) e
      have hn := nm_len g
      refine ⟨⟨h1, h3⟩, ?_⟩
      cases gs with
      | nil =>
        cases xs with
        | nil =>
          have e2 : some l1 = some l' := e
          cases e2
          show ((QB.nm g ++ 58 :: p g x).length : Int) ≤ _
          rw [List.length_append, List.length_cons]
          omega
        | cons y ys => simp at hl
      | cons g' gs' =>
        cases xs with
        | nil => simp at hl
        | cons y ys =>
          have e3 : QB.joinC (List.zipWith (fun g x => QB.nm g ++ 58 :: p g x) (g :: g' :: gs') (x :: y :: ys)) = (QB.nm g ++ 58 :: p g x) ++ 44 :: QB.joinC (List.zipWith (fun g x => QB.nm g ++ 58 :: p g x) (g' :: gs') (y :: ys)) := rfl
          rw [e3, List.length_append, List.length_append, List.length_cons, List.length_cons]
          omega
theorem some_of {p : Prop} [Decidable p] {o : Option Int} {l' : Int} (h : (if p then o else none) = some l') : p ∧ o = some l' := by
  split at h
  · rename_i c; exact ⟨c, h⟩
  · cases h
theorem val_eq {v : VT} (h0 : ¬ v.nul = true) (n : Int) (t : ByteArray) (l : List VT) (h1 : v.num = n) (h2 : v.text = t) (h3 : v.list = l) : v = .mk false n t l :=
  VT.ext' (by show v.nul = false; simpa using h0) h1 h2 h3
/-- what fits, fits as data; its text is no longer than eleven times its weight -/
theorem fits_fit : ∀ (n : Nat) (f : FT) (v : VT) (l l' : Int), okF n f → okNm n f → fitsT n f v l = some l' → QB.fitV (QF.lf numB) n f v ∧ ((QB.prV QF.leafT n f v).length : Int) + 70 ≤ 11 * (16 + v.text.size + (l - l'))
  | 0, f, v, l, l', _, _, e => by cases e
  | n + 1, f, v, l, l', hF, ho, e => by
    have ih : ∀ g ∈ f.kids, ∀ v l l', fitsT n g v l = some l' → QB.fitV (QF.lf numB) n g v ∧ ((QB.prV QF.leafT n g v).length : Int) + 70 ≤ 11 * (16 + v.text.size + (l - l')) := fun g hg v l l' e => fits_fit n g v l l' (hF.2 g hg) (ho g hg).2 e
    have ihw : ∀ g ∈ f.kids, ∀ v l l', weigh (fitsT n g) v l = some l' → QB.fitV (QF.lf numB) n g v ∧ ((QB.prV QF.leafT n g v).length : Int) + 70 ≤ 11 * (l - l') := fun g hg v l l' e => by
      unfold weigh at e
      split at e
      · have h := ih g hg v _ l' e
        exact ⟨h.1, by have := h.2; omega⟩
      · cases e
    have ht := hF.1
    rw [fitsT, fitsB] at e
    show QB.fitB (QF.lf numB) (QB.fitV (QF.lf numB) n) f v ∧ ((QB.prB QF.leafT (QB.prV QF.leafT n) f v).length : Int) + 70 ≤ 11 * (16 + v.text.size + (l - l'))
    unfold QB.fitB QB.prB
    by_cases hn : v.nul = true
    · rw [if_pos hn] at e
      rw [if_pos hn, if_pos hn]
      obtain ⟨⟨h0, h1, h2, h3⟩, h4⟩ := some_of e
      cases h4
      exact ⟨⟨h0, VT.ext' hn h1 (size_nil h2) h3⟩, by simp [QB.nullT]; omega⟩
    rw [if_neg hn] at e
    rw [if_neg hn, if_neg hn]
    by_cases k12 : f.kind = 12
    · rw [if_pos k12] at e
      obtain ⟨⟨h1, h2, h3⟩, h4⟩ := some_of e
      cases h4
      rw [if_neg (by omega), if_neg (by omega), if_neg (by omega), if_neg (by omega), if_neg (by omega), if_neg (by omega), if_neg (by omega), if_neg (by omega), if_neg (by omega)]
      unfold QF.lf QF.leafT
      rw [if_pos k12, if_pos k12]
      refine ⟨⟨val_eq hn _ _ _ h1 rfl h2, h3⟩, ?_⟩
      have := escs_len v.text.data.toList
      rw [tx_len] at this
      simp only [List.length_cons, List.length_append, List.length_nil]
      omega
    rw [if_neg k12] at e
    by_cases k13 : f.kind = 13
    · rw [if_pos k13] at e
      obtain ⟨⟨h1, h2⟩, h4⟩ := some_of e
      cases h4
      rw [if_neg (by omega), if_neg (by omega), if_neg (by omega), if_neg (by omega), if_neg (by omega), if_neg (by omega), if_neg (by omega), if_neg (by omega), if_neg (by omega)]
      unfold QF.lf QF.leafT
      rw [if_neg k12, if_pos k13, if_neg k12, if_pos (.inl k13)]
      refine ⟨val_eq hn _ _ _ h1 rfl h2, ?_⟩
      have := QG.hex_len v.text.data.toList
      rw [tx_len] at this
      simp only [List.length_cons, List.length_append, List.length_nil]
      omega
    rw [if_neg k13] at e
    by_cases k14 : f.kind = 14
    · rw [if_pos k14] at e
      obtain ⟨⟨h1, h2, h3⟩, h4⟩ := some_of e
      cases h4
      rw [if_neg (by omega), if_neg (by omega), if_neg (by omega), if_neg (by omega), if_neg (by omega), if_neg (by omega), if_neg (by omega), if_neg (by omega), if_neg (by omega)]
      unfold QF.lf QF.leafT
      rw [if_neg k12, if_neg k13, if_pos k14, if_neg k12, if_pos (.inr k14)]
      refine ⟨⟨val_eq hn _ _ _ h1 rfl h2, h3⟩, ?_⟩
      have := QG.hex_len v.text.data.toList
      rw [tx_len] at this
      simp only [List.length_cons, List.length_append, List.length_nil]
      omega
    rw [if_neg k14] at e
    by_cases k15 : f.kind = 15
    · rw [if_pos k15] at e
      obtain ⟨⟨h1, h2, h3⟩, h4⟩ := some_of e
      obtain ⟨g1, g2⟩ := fitsL_fit (ihw _ (QB.head_mem (tab_kid ht (by omega)))) _ _ _ h4
      rw [if_pos k15, if_pos (.inl k15)]
      refine ⟨⟨val_eq hn _ _ _ h1 (size_nil h2) rfl, h3, g1⟩, ?_⟩
      simp only [List.length_cons, List.length_append, List.length_nil]
      omega
    rw [if_neg k15] at e
    by_cases k16 : f.kind = 16
    · rw [if_pos k16] at e
      obtain ⟨⟨h1, h2, h3, _⟩, h4⟩ := some_of e
      obtain ⟨g1, g2⟩ := fitsL_fit (ihw _ (QB.head_mem (tab_kid ht (by omega)))) _ _ _ h4
      rw [if_neg k15, if_pos k16, if_pos (.inr k16)]
      refine ⟨⟨val_eq hn _ _ _ h1 (size_nil h2) rfl, by omega, g1⟩, ?_⟩
      simp only [List.length_cons, List.length_append, List.length_nil]
      omega
    rw [if_neg k16] at e
    rw [if_neg k15, if_neg k16, if_neg (show ¬ (f.kind = 15 ∨ f.kind = 16) by omega)]
    by_cases k17 : f.kind = 17
    · rw [if_pos k17] at e
      obtain ⟨⟨h1, h2, h3⟩, h4⟩ := some_of e
      obtain ⟨g1, g2⟩ := fitsP_fit (p := QB.prV QF.leafT n) (P := QB.fitV (QF.lf numB) n) f.kids (fun g hg => ⟨(ho g hg).1, ihw g hg⟩) _ _ _ h3 h4
      rw [if_pos k17, if_pos k17]
      refine ⟨⟨val_eq hn _ _ _ h1 (size_nil h2) rfl, g1⟩, ?_⟩
      simp only [List.length_cons, List.length_append, List.length_nil]
      omega
    rw [if_neg k17] at e
    rw [if_neg k17, if_neg k17]
    by_cases k18 : f.kind = 18
    · rw [if_pos k18] at e
      obtain ⟨⟨h1, h2, h3, h5⟩, h4⟩ := some_of e
      obtain ⟨x, hx⟩ := List.length_eq_one_iff.1 h5
      have hi : v.num.toNat < f.kids.length := by omega
      have hm := QB.getD_mem hi
      rw [hx] at h4
      obtain ⟨g1, g2⟩ := ihw _ hm x _ _ h4
      rw [if_pos k18, if_pos k18]
      refine ⟨⟨v.num.toNat, x, val_eq hn _ _ _ (by omega) (size_nil h1) hx, hi, g1⟩, ?_⟩
      have hnm := nm_len (f.kids.getD v.num.toNat default)
      have hns := (ho _ hm).1
      rw [hx, List.length_append, List.length_cons, List.length_append]
      show (((QB.nm (f.kids.getD v.num.toNat default)).length + ((QB.prV QF.leafT n (f.kids.getD v.num.toNat default) x).length + 1 + 1) : Nat) : Int) + 70 ≤ _
      omega
    rw [if_neg k18] at e
    rw [if_neg k18, if_neg k18]
    by_cases k19 : f.kind = 19 ∨ f.kind = 20
    · rw [if_pos k19] at e
      rw [if_pos k19, if_pos k19]
      exact ih _ (QB.head_mem (tab_kid ht (by omega))) _ _ _ e
    rw [if_neg k19] at e
    rw [if_neg k19, if_neg k19]
    obtain ⟨⟨h1, h2, h3, h5⟩, h4⟩ := some_of e
    cases h4
    unfold QF.lf QF.leafT
    rw [if_neg k12, if_neg k13, if_neg k14, if_neg k12, if_neg (by omega)]
    refine ⟨⟨val_eq hn _ _ _ rfl (size_nil h1) h2, h3, h5⟩, ?_⟩
    have := num_len f.kind v.num h3
    omega

/-! ### what fits as data, fits, where it isn't too heavy -/
theorem sum_nn {e : Nat} (h : ∀ v, 0 ≤ QG.wS e v) : ∀ l : List VT, 0 ≤ (l.map (QG.wS e)).sum
  | [] => by simp
  | x :: l => by
    have h1 := h x
    have h2 := sum_nn h l
    simp only [List.map_cons, List.sum_cons]
    omega
theorem wS_ge : ∀ (e : Nat) (v : VT), 16 + (v.text.size : Int) ≤ QG.wS e v
  | 0, v => Int.le_refl _
  | e + 1, v => by
    have h := sum_nn (e := e) (fun x => by have := wS_ge e x; omega) v.list
    show 16 + (v.text.size : Int) ≤ 16 + v.text.size + (v.list.map (QG.wS e)).sum
    omega
theorem sumS (e : Nat) (l : List VT) : 0 ≤ (l.map (QG.wS e)).sum := sum_nn (fun x => by have := wS_ge e x; omega) l
theorem wS_leaf (e : Nat) (v : VT) (h : v.list = []) : QG.wS e v = 16 + v.text.size := by
  cases e with
  | zero => rfl
  | succ e =>
    show 16 + (v.text.size : Int) + (v.list.map (QG.wS e)).sum = _
    rw [h]; simp
theorem fitL_fits {r : VT → Int → Option Int} {m : Nat} : ∀ (xs : List VT) (l : Int), (∀ x ∈ xs, ∀ l, QG.wS m x ≤ l → r x l = some (l - QG.wS m x)) → (xs.map (QG.wS m)).sum ≤ l → fitsL r xs l = some (l - (xs.map (QG.wS m)).sum)
  | [], l, _, _ => by simp [fitsL]
  | x :: xs, l, h, hl => by
    simp only [List.map_cons, List.sum_cons] at hl ⊢
    have h2 := sumS m xs
    rw [fitsL, h x (by simp) l (by omega)]
    have h3 := fitL_fits xs (l - QG.wS m x) (fun y hy => h y (by simp [hy])) (by omega)
    show fitsL r xs (l - QG.wS m x) = _
    rw [h3]
    congr 1
    omega
theorem fitP_fits {r : FT → VT → Int → Option Int} {P : FT → VT → Prop} {m : Nat} : ∀ (gs : List FT) (xs : List VT) (l : Int), (∀ g ∈ gs, ∀ x, P g x → ∀ l, QG.wS m x ≤ l → r g x l = some (l - QG.wS m x)) → QB.All2 P gs xs → (xs.map (QG.wS m)).sum ≤ l → fitsP r gs xs l = some (l - (xs.map (QG.wS m)).sum)
  | [], [], l, _, _, _ => by simp [fitsP]
  | [], _ :: _, _, _, h, _ => h.elim
  | _ :: _, [], _, _, h, _ => h.elim
  | g :: gs, x :: xs, l, h, ha, hl => by
    simp only [List.map_cons, List.sum_cons] at hl ⊢
    have h2 := sumS m xs
    rw [fitsP, h g (by simp) x ha.1 l (by omega)]
    have h3 := fitP_fits gs xs (l - QG.wS m x) (fun g' hg => h g' (by simp [hg])) ha.2 (by omega)
    show fitsP r gs xs (l - QG.wS m x) = _
    rw [h3]
    congr 1
    omega
theorem fit_fits : ∀ (n e : Nat) (f : FT) (v : VT) (l : Int), n ≤ e → okF n f → QB.fitV (QF.lf numB) n f v → QG.wS e v ≤ l + (16 + v.text.size) → fitsT n f v l = some (l + (16 + v.text.size) - QG.wS e v)
  | 0, e, f, v, l, _, _, h, _ => h.elim
  | n + 1, 0, f, v, l, h, _, _, _ => by omega
  | n + 1, e + 1, f, v, l, he, hF, hf, hl => by
    have ht := hF.1
    have ihw : ∀ g ∈ f.kids, ∀ x, QB.fitV (QF.lf numB) n g x → ∀ l, QG.wS e x ≤ l → weigh (fitsT n g) x l = some (l - QG.wS e x) := fun g hg x hx l hl => by
      have hge := wS_ge e x
      unfold weigh
      rw [if_pos (by omega), fit_fits n e g x _ (by omega) (hF.2 g hg) hx (by omega)]
      congr 1
      omega
    have hw : QG.wS (e + 1) v = 16 + v.text.size + (v.list.map (QG.wS e)).sum := rfl
    have hleaf : v.list = [] → some l = some (l + (16 + v.text.size) - QG.wS (e + 1) v) := fun h => by
      rw [wS_leaf _ _ h]
      congr 1
      omega
    rw [fitsT, fitsB]
    have hf' : QB.fitB (QF.lf numB) (QB.fitV (QF.lf numB) n) f v := hf
    unfold QB.fitB at hf'
    by_cases hn : v.nul = true
    · rw [if_pos hn] at hf' ⊢
      obtain ⟨h0, hv⟩ := hf'
      have hl0 : v.list = [] := by rw [hv]; rfl
      rw [if_pos ⟨h0, by rw [hv]; rfl, by rw [hv]; rfl, hl0⟩]
      exact hleaf hl0
    rw [if_neg hn] at hf' ⊢
    have lists : ∀ L : List VT, v = QB.listV L → v.num = 0 ∧ v.text.size = 0 := fun L h => by rw [h]; exact ⟨rfl, rfl⟩
    by_cases k15 : f.kind = 15
    · rw [if_pos k15] at hf'
      obtain ⟨h1, h2, h3⟩ := hf'
      obtain ⟨n0, t0⟩ := lists _ h1
      rw [if_neg (by omega), if_neg (by omega), if_neg (by omega), if_pos k15, if_pos ⟨n0, t0, h2⟩]
      rw [fitL_fits (m := e) v.list l (fun x hx => ihw _ (QB.head_mem (tab_kid ht (by omega))) x (h3 x hx)) (by omega)]
      congr 1
      omega
    rw [if_neg k15] at hf'
    by_cases k16 : f.kind = 16
    · rw [if_pos k16] at hf'
      obtain ⟨h1, h2, h3⟩ := hf'
      obtain ⟨n0, t0⟩ := lists _ h1
      have hwd : 1 ≤ f.width ∧ f.width ≤ 64 := by
        unfold tableB widthB at ht
        rw [k16] at ht
        simp at ht
        omega
      rw [if_neg (by omega), if_neg (by omega), if_neg (by omega), if_neg k15, if_pos k16, if_pos ⟨n0, t0, by omega, by omega⟩]
      rw [fitL_fits (m := e) v.list l (fun x hx => ihw _ (QB.head_mem (tab_kid ht (by omega))) x (h3 x hx)) (by omega)]
      congr 1
      omega
    rw [if_neg k16] at hf'
    by_cases k17 : f.kind = 17
    · rw [if_pos k17] at hf'
      obtain ⟨h1, h2⟩ := hf'
      obtain ⟨n0, t0⟩ := lists _ h1
      rw [if_neg (by omega), if_neg (by omega), if_neg (by omega), if_neg k15, if_neg k16, if_pos k17, if_pos ⟨n0, t0, h2.len⟩]
      rw [fitP_fits (m := e) f.kids v.list l (fun g hg x hx => ihw g hg x hx) h2 (by omega)]
      congr 1
      omega
    rw [if_neg k17] at hf'
    by_cases k18 : f.kind = 18
    · rw [if_pos k18] at hf'
      obtain ⟨i, x, rfl, hi, h2⟩ := hf'
      rw [if_neg (by omega), if_neg (by omega), if_neg (by omega), if_neg k15, if_neg k16, if_neg k17, if_pos k18, if_pos ⟨rfl, by show (0 : Int) ≤ (i : Int); omega, by show (i : Int) < _; omega, rfl⟩]
      have hs : QG.wS (e + 1) (.mk false (i : Int) ⟨#[]⟩ [x]) = 16 + 0 + (QG.wS e x + 0) := rfl
      have ht0 : (VT.mk false (i : Int) ⟨#[]⟩ [x]).text.size = 0 := rfl
      rw [hs, ht0] at hl
      rw [hs, ht0]
      show weigh (fitsT n (f.kids.getD i default)) x l = _
      rw [ihw _ (QB.getD_mem hi) x h2 l (by omega)]
      congr 1
      omega
    rw [if_neg k18] at hf'
    by_cases k19 : f.kind = 19 ∨ f.kind = 20
    · rw [if_pos k19] at hf'
      rw [if_neg (by omega), if_neg (by omega), if_neg (by omega), if_neg k15, if_neg k16, if_neg k17, if_neg k18, if_pos k19]
      exact fit_fits n (e + 1) _ v l (by omega) (hF.2 _ (QB.head_mem (tab_kid ht (by omega)))) hf' hl
    rw [if_neg k19] at hf'
    unfold QF.lf at hf'
    by_cases k12 : f.kind = 12
    · rw [if_pos k12] at hf'
      have hl0 : v.list = [] := by rw [hf'.1]; rfl
      rw [if_pos k12, if_pos ⟨by rw [hf'.1]; rfl, hl0, hf'.2⟩]
      exact hleaf hl0
    rw [if_neg k12] at hf'
    by_cases k13 : f.kind = 13
    · rw [if_pos k13] at hf'
      have hl0 : v.list = [] := by rw [hf']; rfl
      rw [if_neg k12, if_pos k13, if_pos ⟨by rw [hf']; rfl, hl0⟩]
      exact hleaf hl0
    rw [if_neg k13] at hf'
    by_cases k14 : f.kind = 14
    · rw [if_pos k14] at hf'
      have hl0 : v.list = [] := by rw [hf'.1]; rfl
      rw [if_neg k12, if_neg k13, if_pos k14, if_pos ⟨by rw [hf'.1]; rfl, hl0, hf'.2⟩]
      exact hleaf hl0
    rw [if_neg k14] at hf'
    have hl0 : v.list = [] := by rw [hf'.1]; rfl
    rw [if_neg k12, if_neg k13, if_neg k14, if_neg k15, if_neg k16, if_neg k17, if_neg k18, if_neg k19, if_pos ⟨by rw [hf'.1]; rfl, hl0, hf'.2.1, hf'.2.2⟩]
    exact hleaf hl0

/-! ### a field that may be is one whose values are written and read -/
theorem word_name (c : UInt8) (h : wordB c.toNat = true) : QB.nameBt c = true := by
  have hall : ∀ n, n < 256 → wordB n = true → QB.nameBt (UInt8.ofNat n) = true := by decide +kernel
  have := hall c.toNat c.toNat_lt h
  simpa using this
theorem nameB_all {s : ByteArray} (h : nameB s = true) : ∀ c ∈ s.data.toList, QB.nameBt c = true := fun c hc => by
  unfold nameB at h
  simp only [Bool.and_eq_true] at h
  exact word_name c (List.all_eq_true.1 h.2 c hc)
theorem nodup_idx {l : List FT} (h : ∀ i (hi : i < l.length), idxOf l l[i].name = i) : (l.map QB.nm).Nodup := by
  refine List.pairwise_iff_getElem.2 fun i j hi hj hij e => ?_
  simp only [List.length_map] at hi hj
  simp only [List.getElem_map] at e
  have hn : l[i].name = l[j].name := bytes_ext e
  have h1 := h i hi
  have h2 := h j hj
  rw [hn, h2] at h1
  omega
theorem kid0_head {f : FT} (h : f.kids ≠ []) : kid0 f = f.kids.head!.nul := by
  unfold kid0
  cases e : f.kids with
  | nil => exact absurd e h
  | cons a l => rfl
theorem okA_okk : ∀ (D : Nat) (f : FT), tableB f = true → nullB f = true → (f.kind = 19 → kid0 f = false) → okA D f.kids → deep D f.kids → QB.okk (D + 1) f
  | D, f, ht, hn, h19, ha, hd => by
    have hA : ∀ i (hi : i < f.kids.length), nameB f.kids[i].name = true ∧ idxOf f.kids f.kids[i].name = i ∧ ∀ E, D = E + 1 → QB.okk (E + 1) f.kids[i] := fun i hi => by
      cases D with
      | zero => have hz : f.kids = [] := hd; rw [hz] at hi; simp at hi
      | succ D =>
        obtain ⟨a, b, c, e, g, k⟩ := ha i hi
        exact ⟨a, b, fun E hE => by cases hE; exact okA_okk D _ c e g k (hd _ (List.getElem_mem hi))⟩
    refine ⟨fun e => ?_, fun e => ⟨nodup_idx fun i hi => (hA i hi).2.1, fun g hg => ?_⟩, fun e => ?_, fun e => ⟨tab_kid ht (by omega), fun hh => ?_⟩, fun e => tab_kid ht (by omega), fun _ g hg => ?_⟩
    · unfold tableB widthB at ht
      rw [e] at ht
      simp at ht
      omega
    · obtain ⟨i, hi, rfl⟩ := List.mem_iff_getElem.1 hg
      exact nameB_all (hA i hi).1
    · unfold nullB at hn
      rw [e] at hn
      simpa using hn
    · have hk := kid0_head (tab_kid ht (by omega))
      rcases e with e | e
      · rw [h19 e] at hk
        rw [← hk] at hh
        cases hh
      · unfold nullB at hn
        rw [e] at hn
        have h2 : f.nul = kid0 f := by simpa [kid0] using hn
        rw [h2, hk]
        exact hh
    · obtain ⟨i, hi, rfl⟩ := List.mem_iff_getElem.1 hg
      cases D with
      | zero => have hz : f.kids = [] := hd; rw [hz] at hi; simp at hi
      | succ D => exact (hA i hi).2.2 D rfl
theorem okR_okNm : ∀ (n : Nat) (f : FT), okR n f → okNm n f
  | 0, _, _ => trivial
  | n + 1, f, h => fun g hg => ⟨(h.2.2.2 g hg).1, okR_okNm n g (h.2.2.2 g hg).2⟩
/-- all that is asked of a field -/
structure Good (D : Nat) (f : FT) : Prop where
  okF : Kit.okF (D + 1) f
  okR : Kit.okR (D + 1) f
  okk : QB.okk (D + 1) f
  okNm : Kit.okNm (D + 1) f
theorem AllR.good {D : Nat} {f : FT} (h : AllR (nodes (D + 1) [f] [] false)) (hd : deep D f.kids) : Good D f := by
  have hA := nf_okA (D + 1) [f] [] false h.nf
  obtain ⟨a, b, c, e, g, k⟩ := hA 0 (by simp)
  have hR := okA_okR D f c k hd
  exact ⟨h.okF hd, hR, okA_okk D f c e g k hd, okR_okNm _ _ hR⟩
section
variable {S : Nat → Prop} {D : Nat} {w : World} {f : FT} {ao : Option Addr} {ca : Nat}
theorem fld_good (hT : Tab w) (hf : RowAt S w D ao f.kids) (hca : f.kids.length ≤ ca) (hD : D + 1 ≤ big) (hS : ∀ b, S b → b < w.heap.size) :
    ∃ mb : Bool, (∀ W, Gr w W → Calls Tryz.prog 21 #[.agg #[.string f.name, .bool f.nul, .int .i64 f.kind, .int .i64 f.width, .int .i64 f.id, .int .i64 f.index, .slice ao f.kids.length ca]] W fun e w' => e = .returned (.bool mb) ∧ Gr W w') ∧ (mb = true → Good D f) ∧ (AllR (nodes (D + 1) [f] [] false) → mb = true) := by
  obtain ⟨er, p, tt, hF⟩ := fault_is (0, 0) (nodes (D + 1) [f] [] false)
  have hT46 : Tells w 42 (.agg #[.string f.name, .bool f.nul, .int .i64 f.kind, .int .i64 f.width, .int .i64 f.id, .int .i64 f.index, .slice ao f.kids.length ca]) er p.tail tt := fun W g => by
    refine Calls.mono (checkField_any S D f ao ca W (hT.gr g) (hf.kept fun b hb => g.block b (hS b hb) id) hca hD (fun b hb => by have := hS b hb; have := g.size; omega)) ?_
    rintro e w' ⟨er', p', vo, vc, tt', rfl, hg, h1, h2⟩
    obtain ⟨rfl, rfl, rfl⟩ := hF.one h1
    exact ⟨vo, vc, rfl, hg, h2⟩
  refine ⟨er == 0, mayBe_any hT46, fun h => ?_, fun h => ?_⟩
  · rcases hF with ⟨h0, _⟩ | ⟨_, hA, _⟩ | ⟨_, L, x, _, _, hne, he, _⟩
    · exact absurd rfl h0
    · exact hA.good hf.deep
    · exact absurd (by rw [← he]; exact beq_iff_eq.1 h) hne
  · obtain ⟨rfl, _⟩ := hF.one (.inr (.inl ⟨rfl, h, rfl, rfl, rfl⟩))
    rfl
end
end Go.Proofs.YtfoifmacobldbaaGreatDoor.Kit
