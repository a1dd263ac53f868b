import Derived.Test.YtemleibpmaclmaaSE
namespace Go.Proofs.Ytemleibpmaclmaa.Kit
open Go.RowKit Go.Shelf Go.Deep
set_option linter.unusedVariables false
attribute [local go_sem] run_store_func

theorem info24 : (Try.prog.info? 24).map (fun i => (i.zero, i.size, i.bytes)) = some (some (.agg #[.slice none 0 0, .slice none 0 0]), 2, 48) := by kernel_rfl
theorem step_append_msgs {w : World} {ops : Array Oper} {o : Oper} {a : Act} {K : Act → World → Prop} {Q : Exit → Act → World → Prop} {E : Prop} (hgd : o.guard = none) (s x : Operand)
    (ho : o.op = .call { callee := .builtin .append, args := #[s, x], argTypes := #[58, 58] })
    (vo : Option Addr) (n vc : Nat) (xs : List Value) (hv : a.eval s = .slice vo n vc) (hown : OffRow w 24 2 vo n vc xs) (y : Value) (m : Nat) (news : List Value) (hx : a.eval x = y) (hs : Src Try.prog 2 58 y m news w) (h63 : n + m ≤ 9223372036854775807) (hbytes : (n + m) * 48 ≤ 140737488355328)
    (h : ∀ vo' vc' w', OffRow w' 24 2 vo' (n + m) vc' (xs ++ news) → w.grownBy w' (Value.slice vo n vc).ownBlock → ((Value.slice vo' (n + m) vc').ownBlock = (Value.slice vo n vc).ownBlock ∨ (∀ g, (Value.slice vo' (n + m) vc').ownBlock = some g → w.heap.size ≤ g) ∧ w.grownBy w' none) → K (a.put o.dst (.slice vo' (n + m) vc')) w') :
    if Region.wanted o (yielded ops a.tmps) = true then Oper.wp Try.prog o a w K Q else E := by
  have hw : Region.wanted o (yielded ops a.tmps) = true := by simp [Region.wanted, hgd]
  rw [if_pos hw]
  obtain ⟨i, hi, hzz⟩ := Option.map_eq_some_iff.1 info24
  simp only [Prod.mk.injEq] at hzz
  obtain ⟨hz, hsz, hb⟩ := hzz
  obtain ⟨vo', vc', w', hr, h2, h3, h4⟩ := run_append_off (P := Try.prog) w 58 58 o.type 24 i _ Try.underlying58 hi hz (by rw [hsz]; rfl) (by omega) vo n vc xs (by rw [hsz]; exact hown) y m news (by rw [hsz]; exact hs) h63 (by rw [hb]; exact hbytes)
  rw [hsz] at h2
  unfold Oper.wp
  simp [execOp, ho, resolve, invoke, builtin, hv, hx, hr, Result.andThen]
  exact h vo' vc' w' h2 h3 h4
theorem ms_len {s : Sc} {x : List UInt8 × List UInt8} : ({ s with ms := s.ms ++ [x] } : Sc).ms.length = s.ms.length + 1 := by simp
/-- the rows behind a message that has joined -/
def push2 (R : Nat → Row) (n i : Nat) : Row := if i = 3 + 2 * n then R 1 else if i = 4 + 2 * n then R 2 else R i
theorem push2_1 (R : Nat → Row) (n : Nat) : push2 R n 1 = R 1 := by unfold push2; rw [if_neg (by omega), if_neg (by omega)]
theorem push2_2 (R : Nat → Row) (n : Nat) : push2 R n 2 = R 2 := by unfold push2; rw [if_neg (by omega), if_neg (by omega)]
theorem wCells_succ (R : Nat → Row) (n : Nat) : wCells (push2 R n) (n + 1) = wCells R n ++ [rv (R 1), rv (R 2)] := by
  unfold wCells
  rw [List.range_succ, List.flatMap_append]
  congr 1
  · unfold List.flatMap
    congr 1
    apply List.map_congr_left
    intro i hi
    have := List.mem_range.1 hi
    unfold push2
    rw [if_neg (by omega), if_neg (by omega), if_neg (by omega), if_neg (by omega)]
  · simp [push2]
theorem row_push (s : Sc) (i : Nat) (h3 : 3 ≤ i) (hi : i < 3 + 2 * (s.ms.length + 1)) : ({ s with ms := s.ms ++ [(s.md, s.bd)] } : Sc).row i = (if i = 3 + 2 * s.ms.length then s.md else if i = 4 + 2 * s.ms.length then s.bd else s.row i) := by
  have h0 : ¬ i = 0 := by omega
  have h1 : ¬ i = 1 := by omega
  have h2 : ¬ i = 2 := by omega
  unfold Sc.row
  simp only [h0, h1, h2, if_false]
  by_cases c : i = 3 + 2 * s.ms.length
  · subst c
    have e1 : (3 + 2 * s.ms.length) % 2 = 1 := by omega
    have e2 : (3 + 2 * s.ms.length - 3) / 2 = s.ms.length := by omega
    rw [if_pos e1, if_pos rfl, e2]
    simp
  · by_cases d : i = 4 + 2 * s.ms.length
    · subst d
      have e1 : ¬ (4 + 2 * s.ms.length) % 2 = 1 := by omega
      have e2 : (4 + 2 * s.ms.length - 3) / 2 = s.ms.length := by omega
      rw [if_neg e1, if_neg c, if_pos rfl, e2]
      simp
    · have hk : (i - 3) / 2 < s.ms.length := by omega
      rw [if_neg c, if_neg d]
      have e : (s.ms ++ [(s.md, s.bd)]).getD ((i - 3) / 2) ([], []) = s.ms.getD ((i - 3) / 2) ([], []) := by
        rw [List.getD_eq_getElem?_getD, List.getD_eq_getElem?_getD, List.getElem?_append_left hk]
      rw [e]
theorem Rd.pushed {w W W2 W3 : World} {p : Nat} {tl : List Value} {s : Sc} {R : Nat → Row} {wo : Option Addr} {wc : Nat} (h : Rd w W p 76 tl s R wo wc) {mo bo : Option Addr} {ml mc bl bc : Nat} (h1 : R 1 = (mo, ml, mc)) (h2 : R 2 = (bo, bl, bc)) (gA : Gr W W2) {wo' : Option Addr} {wc' : Nat}
    (own : OffRow W3 24 2 wo' (s.ms.length + 1) wc' (wCells R s.ms.length ++ [.slice mo ml mc, .slice bo bl bc])) (hg : W2.grownBy W3 (Value.slice wo s.ms.length wc).ownBlock)
    (hblk : (Value.slice wo' (s.ms.length + 1) wc').ownBlock = (Value.slice wo s.ms.length wc).ownBlock ∨ (∀ g, (Value.slice wo' (s.ms.length + 1) wc').ownBlock = some g → W2.heap.size ≤ g) ∧ W2.grownBy W3 none) :
    W3.heap[p]? = some (.cells (scCells s R wo wc ++ tl).toArray 76 (0, 0)) ∧
    Rb w (W3.setCell ⟨p, 10, none⟩ (.slice wo' (s.ms.length + 1) wc')) p 76 tl { s with ms := s.ms ++ [(s.md, s.bd)] } (push2 R s.ms.length) wo' wc' ∧ Keeps W (W3.setCell ⟨p, 10, none⟩ (.slice wo' (s.ms.length + 1) wc')) (RIs p s.ms.length R wo wc) ∧
      ∀ g, RIs p ({ s with ms := s.ms ++ [(s.md, s.bd)] } : Sc).ms.length (push2 R s.ms.length) wo' wc' g → RIs p s.ms.length R wo wc g ∨ W.heap.size ≤ g := by
  have tp : Typ W p 76 := ⟨_, _, h.box⟩
  have k0 : Keeps W W3 (fun g => (Value.slice wo s.ms.length wc).ownBlock = some g) := (gA.mono fun _ _ f => f.elim).trans (Keeps.ofGrown hg) (fun _ _ e => e)
  have hne : ¬ (Value.slice wo s.ms.length wc).ownBlock = some p := fun e => absurd (tp.ne (h.wown.typ e)) (by decide)
  have hb3 : W3.heap[p]? = some (.cells (scCells s R wo wc ++ tl).toArray 76 (0, 0)) := (k0.block p (lt_of_heap h.box) hne).trans h.box
  have tp3 : Typ W3 p 76 := ⟨_, _, hb3⟩
  have hne' : ¬ (Value.slice wo' (s.ms.length + 1) wc').ownBlock = some p := fun e => absurd (tp3.ne (own.typ e)) (by decide)
  have oth : ∀ g, g ≠ p → (W3.setCell ⟨p, 10, none⟩ (.slice wo' (s.ms.length + 1) wc')).heap[g]? = W3.heap[g]? := fun g hg => heap_setCell_other W3 ⟨p, 10, none⟩ g _ hg
  have k1 : Keeps W (W3.setCell ⟨p, 10, none⟩ (.slice wo' (s.ms.length + 1) wc')) (fun g => g = p ∨ (Value.slice wo s.ms.length wc).ownBlock = some g) := Keeps.setCell (S := fun g => g = p ∨ (Value.slice wo s.ms.length wc).ownBlock = some g) (p := ⟨p, 10, none⟩) (k0.mono fun _ _ e => Or.inr e) (fun _ => Or.inl rfl) _
  have wsz := h.gr.size
  have row5 : ∀ i, i < 3 + 2 * s.ms.length → (W3.setCell ⟨p, 10, none⟩ (.slice wo' (s.ms.length + 1) wc')).ownsRow 0 5 1 (rv (R i)) (R i).2.1 (bv (s.row i)) := fun i hi => own_kp (h.rows i hi) fun g e => k1.block g (own_lt (h.rows i hi) g e) (fun z => by
    have t5 := own_typ (h.rows i hi) e
    rcases z with z | z
    · subst z; exact absurd (tp.ne t5) (by decide)
    · exact absurd ((h.wown.typ z).ne t5) (by decide))
  have idx : ∀ i, 3 ≤ i → i < 3 + 2 * (s.ms.length + 1) → ∃ j, j < 3 + 2 * s.ms.length ∧ push2 R s.ms.length i = R j ∧ ({ s with ms := s.ms ++ [(s.md, s.bd)] } : Sc).row i = s.row j ∧ ((i = 3 + 2 * s.ms.length ∧ j = 1) ∨ (i = 4 + 2 * s.ms.length ∧ j = 2) ∨ (i < 3 + 2 * s.ms.length ∧ j = i)) := fun i h3 hi => by
    rw [row_push s i h3 hi]
    unfold push2
    by_cases c : i = 3 + 2 * s.ms.length
    · exact ⟨1, by omega, by rw [if_pos c], by rw [if_pos c]; rfl, .inl ⟨c, rfl⟩⟩
    · by_cases d : i = 4 + 2 * s.ms.length
      · exact ⟨2, by omega, by rw [if_neg c, if_pos d], by rw [if_neg c, if_pos d]; rfl, .inr (.inl ⟨d, rfl⟩)⟩
      · exact ⟨i, by omega, by rw [if_neg c, if_neg d], by rw [if_neg c, if_neg d], .inr (.inr ⟨by omega, rfl⟩)⟩
  refine ⟨hb3, ⟨h.gr.trans k1 (fun j hj e => ?_), h.pnew, h.ty, ?_, fun i h3 hi => ?_, fun i h3 hi g e => ?_, fun i j g h3 h3' hi hj hij e q => ?_, ?_, fun g e => ?_⟩, k1.mono fun g _ e => ?_, fun g e => ?_⟩
  · rcases e with e | e
    · have := h.pnew; omega
    · have := h.wnew j e; omega
  · rw [heap_setCell_same W3 p 10 _ 76 _ hb3]
    have e0 : push2 R s.ms.length 0 = R 0 := by unfold push2; rw [if_neg (by omega), if_neg (by omega)]
    have e1 : push2 R s.ms.length 1 = R 1 := by unfold push2; rw [if_neg (by omega), if_neg (by omega)]
    have e2 : push2 R s.ms.length 2 = R 2 := by unfold push2; rw [if_neg (by omega), if_neg (by omega)]
    simp [scCells, e0, e1, e2]
  · rw [ms_len] at hi
    obtain ⟨j, hj, q1, q2, -⟩ := idx i h3 hi
    rw [q1, q2]
    exact row5 j hj
  · rw [ms_len] at hi
    obtain ⟨j, hj, q1, q2, -⟩ := idx i h3 hi
    rw [q1] at e
    exact h.rnew j hj g e
  · rw [ms_len] at hi hj
    obtain ⟨i', hi', q1, -, q3⟩ := idx i h3 hi
    obtain ⟨j', hj', u1, -, u3⟩ := idx j h3' hj
    rw [q1] at e
    rw [u1] at q
    exact h.apart i' j' g hi' hj' (by omega) e q
  · rw [ms_len, wCells_succ, h1, h2]
    exact own.kp fun g e => oth g (fun z => hne' (by rw [← z]; exact e))
  · rw [ms_len] at e
    rcases hblk with z | z
    · rw [z] at e; exact h.wnew g e
    · have := z.1 g e; have := gA.size; omega
  · rcases e with e | e
    · exact .inl e
    · exact .inr (.inl e)
  · rw [ms_len] at e
    rcases e with e | e | ⟨i, hi, e⟩
    · exact .inl (.inl e)
    · rcases hblk with z | z
      · rw [z] at e; exact .inl (.inr (.inl e))
      · have := z.1 g e; have := gA.size; exact .inr (by omega)
    · by_cases h3 : 3 ≤ i
      · obtain ⟨j, hj, q1, -⟩ := idx i h3 hi
        rw [q1] at e
        exact .inl (.inr (.inr ⟨j, hj, e⟩))
      · have q1 : push2 R s.ms.length i = R i := by unfold push2; rw [if_neg (by omega), if_neg (by omega)]
        rw [q1] at e
        exact .inl (.inr (.inr ⟨i, by omega, e⟩))
theorem src_msg (w : World) (a b : Value) (ha : a.oneCell' = true) (hb : b.oneCell' = true) : Src Try.prog 2 58 (.slice (some ⟨w.heap.size, 0, none⟩) 1 1) 1 [a, b] (w.alloc (.cells #[a, b] 24)).drew := by
  refine Src.ofSlice (w := (w.alloc (.cells #[a, b] 24)).drew) Try.underlying58 ⟨w.heap.size, 0, none⟩ 1 1 [a, b] (by simp) (fun j v hj => ?_) (fun v hv => by simp at hv; rcases hv with rfl | rfl <;> assumption)
  have hb' := heap_alloc_new w (.cells #[a, b] 24)
  have e : (⟨w.heap.size, 0, none⟩ : Addr).add j = ⟨w.heap.size, j, none⟩ := by cases j <;> simp [Addr.add]
  rw [e]
  have : (w.alloc (.cells #[a, b] 24)).cell? ⟨w.heap.size, j, none⟩ = some v := by
    simp only [World.cell?, hb']
    simpa using hj
  exact this
set_option maxRecDepth 100000 in
set_option maxHeartbeats 8000000 in
theorem finish_any {w W : World} {p : Nat} {x y : Value} {s : Sc} {R : Nat → Row} {wo : Option Addr} {wc : Nat} (h : Rd w W p 76 [x, y] s R wo wc) (h20 : 20 ≤ s.hd.length) (hl : s.hd.length ≤ 1000) (hms : s.ms.length ≤ 100000000000) :
    Calls Try.prog 62 #[.pointer (some ⟨p, 0, none⟩)] W fun e w' => e = .returned (.int .i64 (finishF s).1) ∧ RdDone w W w' p 76 [x, y] s.ms.length R wo wc (finishF s).2 := by
  obtain ⟨g, hc, hR0, hcap, hcm, c4, hb0⟩ := h.head (by omega)
  obtain ⟨z, hz⟩ : ∃ z, z = num4 s.hd 16 := ⟨_, rfl⟩
  obtain ⟨q, hq⟩ : ∃ q, q = s.sum.toNat := ⟨_, rfl⟩
  have HN : Hid (∀ V, Gr W V → Calls Try.prog 66 #[.pointer (some ⟨p, 0, none⟩), .int .i64 16] V fun e w' => e = .returned (.int .u32 (z : Int)) ∧ Gr V w') := fun V k => by rw [hz]; exact number_any (a := 16) rfl (by omega) hcap hcm (by omega) (hb0.gr k) (k.cell' c4 id)
  have HEn : Hid (∀ V, Gr W V → Calls Try.prog 67 #[.pointer (some ⟨p, 0, none⟩)] V fun e w' => e = .returned (.bool (isEndF s)) ∧ V = w') := fun V k => isEnd_any (h.grow k) (by omega) hl
  have c7 : W.cell? ⟨p, 7, none⟩ = some (.int .u32 (q : Int)) := by rw [hq]; exact h.cells rfl
  have HD : Hid (finishF s = (if z ≠ q then (72, s) else if isEndF s = true then (0, beginF s 9) else (0, beginF { s with ms := s.ms ++ [(s.md, s.bd)] } 0))) := by rw [hz, hq]; rfl
  have HR := hidM h
  clear h hR0 c4 hb0 hz hq hcm hcap hl h20
  go_enter Try.func62, Try.ntmps62
  go_wp2_with fail
  have HIN : Hid (Hid (Gr W W.drew) ∧ W.drew.cell? ⟨p, 7, none⟩ = some (.int .u32 (q : Int))) := ⟨(Keeps.refl W _).drew, c7⟩
  have HGF : Hid (∀ V, (Hid (Gr W V) ∧ V.cell? ⟨p, 7, none⟩ = some (.int .u32 (q : Int))) → Gr W V) := fun V h => h.1.out
  have HKP : Hid (∀ V V', (Hid (Gr W V) ∧ V.cell? ⟨p, 7, none⟩ = some (.int .u32 (q : Int))) → Gr V V' → (Hid (Gr W V') ∧ V'.cell? ⟨p, 7, none⟩ = some (.int .u32 (q : Int)))) := fun V V' h k => ⟨h.1.out.trans k (fun _ _ h => h), k.cell' h.2 id⟩
  go_region_held3 (fun V => Hid (Gr W V) ∧ V.cell? ⟨p, 7, none⟩ = some (.int .u32 (q : Int))) (first | with_reducible exact HIN.out | with_reducible assumption | with_reducible exact HKP.out _ _ (by assumption) gh.out) (first | (go_at_call 66; (with_reducible refine (HN.out _ (HGF.out _ (by assumption))).mono ?_); rintro e W1 ⟨rfl, gh⟩; have gh := hidM gh))
  rename_i hHeld3
  have HG1 := hidM hHeld3.1.out
  have HDn := hidM (RdDone.refl HR.out HG1.out)
  have HEc := hidM (HEn.out W1 HG1.out)
  clear hHeld3 gh HIN HGF HKP HN HEn c7
  by_cases c1 : z = q
  rotate_left
  · have hzq : ((z : Int) != (q : Int)) = true := by simp; omega
    have HE : Hid (finishF s = (72, s)) := by show _ = _; rw [HD.out, if_pos c1]
    go_wp2_with fail
    go_ret
    exact ⟨by rw [HE.out]; rfl, by rw [HE.out]; exact HDn.out⟩
  have hzq : ((z : Int) != (q : Int)) = false := by simp; omega
  cases hE : isEndF s with
  | true =>
    rw [hE] at HEc
    have HE : Hid (finishF s = (0, beginF s 9)) := by show _ = _; rw [HD.out, if_neg (by simpa using c1), if_pos hE]
    have HBg := hidM (begin76 (st := 9) (HR.out.grow HG1.out).rb (by omega))
    clear HD hE
    go_wp2_with (go_at_call 67; refine Hid.out ?_)
    unfold Hid
    refine Calls.mono HEc.out ?_
    rintro e W2 ⟨rfl, rfl⟩
    go_wp2_with (go_at_call 49; refine Hid.out ?_)
    unfold Hid
    refine Calls.mono HBg.out ?_
    rintro e V6 ⟨rfl, hD⟩
    have HFin : Hid (RdDone w W V6 p 76 [x, y] s.ms.length R wo wc (beginF s 9)) := RdDone.trans (s1 := s) (HG1.out.mono fun _ _ f => f.elim) (fun _ h => .inl h) hD
    clear hD
    go_wp2_with fail
    go_ret
    exact ⟨by rw [HE.out]; rfl, by rw [HE.out]; exact HFin.out⟩
  | false =>
    rw [hE] at HEc
    have HE : Hid (finishF s = (0, beginF { s with ms := s.ms ++ [(s.md, s.bd)] } 0)) := by show _ = _; rw [HD.out, if_neg (by simpa using c1), if_neg (by rw [hE]; simp)]
    clear HD hE
    go_wp2_with (go_at_call 67; refine Hid.out ?_)
    unfold Hid
    refine Calls.mono HEc.out ?_
    rintro e W2 ⟨rfl, rfl⟩
    go_wp2_with fail
    clear HEc HDn hzq c1
    obtain ⟨mo, ml, mc, hR1⟩ : ∃ mo ml mc, R 1 = (mo, ml, mc) := ⟨_, _, _, rfl⟩
    obtain ⟨bo, bl, bc, hR2⟩ : ∃ mo ml mc, R 2 = (mo, ml, mc) := ⟨_, _, _, rfl⟩
    have hRw := HR.out.grow HG1.out
    have c8 : W1.cell? ⟨p, 8, none⟩ = some (.slice mo ml mc) := by have := hRw.cells (j := 8) (v := rv (R 1)) rfl; rw [hR1] at this; exact this
    have c9 : W1.cell? ⟨p, 9, none⟩ = some (.slice bo bl bc) := by have := hRw.cells (j := 9) (v := rv (R 2)) rfl; rw [hR2] at this; exact this
    have c10 : W1.cell? ⟨p, 10, none⟩ = some (.slice wo s.ms.length wc) := hRw.cells rfl
    have a8 : ∀ o, (W1.alloc o).cell? ⟨p, 8, none⟩ = some (.slice mo ml mc) := fun o => (gr_alloc W1 o).cell' c8 id
    have a9 : ∀ o, (W1.alloc o).cell? ⟨p, 9, none⟩ = some (.slice bo bl bc) := fun o => (gr_alloc W1 o).cell' c9 id
    have a10 : ∀ o, (W1.alloc o).cell? ⟨p, 10, none⟩ = some (.slice wo s.ms.length wc) := fun o => (gr_alloc W1 o).cell' c10 id
    have goS : ∀ o, (W1.alloc o).drew.cell? ⟨p, 8, none⟩ = some (.slice mo ml mc) ∧ (W1.alloc o).drew.cell? ⟨p, 9, none⟩ = some (.slice bo bl bc) := fun o => ⟨a8 o, a9 o⟩
    have HIN : Hid (W1.drew.cell? ⟨p, 8, none⟩ = some (.slice mo ml mc) ∧ W1.drew.cell? ⟨p, 9, none⟩ = some (.slice bo bl bc)) := ⟨c8, c9⟩
    have gW2 : Gr W (W1.alloc (.cells #[.slice mo ml mc, .slice bo bl bc] 24)).drew := HG1.out.trans ((gr_alloc W1 _).trans ((Keeps.refl _ _).drew) (fun _ _ h => h)) (fun _ _ h => h)
    have HWo := hidM (HR.out.grow gW2).wown
    have HSr := hidM (src_msg W1 (.slice mo ml mc) (.slice bo bl bc) rfl rfl)
    clear hRw
    refine wp_region_held_drew (S := fun w' => w'.cell? ⟨p, 8, none⟩ = some (.slice mo ml mc) ∧ w'.cell? ⟨p, 9, none⟩ = some (.slice bo bl bc)) (by kernel_rfl) (HIN.out) (fun hHeld => ?_)
    refine wpAnyH_take (i := 0) (oi := { dst := some 14, op := Op.move (Operand.tmp 0), type := 92, pos := "scan.go:142", after := #[], guard := none }) (v := ?v0a1) rfl (by kernel_rfl) (by kernel_rfl) (by kernel_rfl) (fun _ _ _ h => h) (Or.inl ⟨by rfl, ?y0a1⟩) (by assumption) ?r0a1
    case y0a1 => (intro w hSw; obtain ⟨s1, s2⟩ := hSw; go_simp; (try with_reducible rfl))
    (try simp only [Act.put]); (try simp only [List.setIfInBounds_toArray]); (try simp only [List.set_cons_succ]); (try simp only [List.set_cons_zero])
    refine wpAnyH_take (i := 1) (oi := { dst := some 15, op := Op.move (Operand.tmp 0), type := 92, pos := "scan.go:142", after := #[], guard := none }) (v := ?v1a2) rfl (by kernel_rfl) (by kernel_rfl) (by kernel_rfl) (fun _ _ _ h => h) (Or.inl ⟨by rfl, ?y1a2⟩) (by assumption) ?r1a2
    case y1a2 => (intro w hSw; obtain ⟨s1, s2⟩ := hSw; go_simp; (try with_reducible rfl))
    (try simp only [Act.put]); (try simp only [List.setIfInBounds_toArray]); (try simp only [List.set_cons_succ]); (try simp only [List.set_cons_zero])
    refine wpAnyH_take (i := 2) (oi := { dst := some 16, op := Op.nilCheck (Operand.tmp 15), type := 0, pos := "scan.go:142", after := #[{ on := 1, ground := Ground.data }], guard := none }) (v := ?v2a3) rfl (by kernel_rfl) (by kernel_rfl) (by kernel_rfl) (fun _ _ _ h => h) (Or.inl ⟨by rfl, ?y2a3⟩) (by assumption) ?r2a3
    case y2a3 => (intro w hSw; obtain ⟨s1, s2⟩ := hSw; go_simp; (try with_reducible rfl))
    (try simp only [Act.put]); (try simp only [List.setIfInBounds_toArray]); (try simp only [List.set_cons_succ]); (try simp only [List.set_cons_zero])
    refine wpAnyH_take (i := 3) (oi := { dst := some 17, op := Op.fieldAddr 73 (Operand.tmp 16) 8, type := 0, pos := "scan.go:142", after := #[{ on := 2, ground := Ground.data }], guard := none }) (v := ?v3a4) rfl (by kernel_rfl) (by kernel_rfl) (by kernel_rfl) (fun _ _ _ h => h) (Or.inl ⟨by rfl, ?y3a4⟩) (by assumption) ?r3a4
    case y3a4 => (intro w hSw; obtain ⟨s1, s2⟩ := hSw; go_simp; (try with_reducible rfl))
    (try simp only [Act.put]); (try simp only [List.setIfInBounds_toArray]); (try simp only [List.set_cons_succ]); (try simp only [List.set_cons_zero])
    refine wpAnyH_take (i := 5) (oi := { dst := some 19, op := Op.move (Operand.tmp 0), type := 92, pos := "scan.go:142", after := #[], guard := none }) (v := ?v5a5) rfl (by kernel_rfl) (by kernel_rfl) (by kernel_rfl) (fun _ _ _ h => h) (Or.inl ⟨by rfl, ?y5a5⟩) (by assumption) ?r5a5
    case y5a5 => (intro w hSw; obtain ⟨s1, s2⟩ := hSw; go_simp; (try with_reducible rfl))
    (try simp only [Act.put]); (try simp only [List.setIfInBounds_toArray]); (try simp only [List.set_cons_succ]); (try simp only [List.set_cons_zero])
    refine wpAnyH_take (i := 6) (oi := { dst := some 20, op := Op.nilCheck (Operand.tmp 19), type := 0, pos := "scan.go:142", after := #[{ on := 5, ground := Ground.data }], guard := none }) (v := ?v6a6) rfl (by kernel_rfl) (by kernel_rfl) (by kernel_rfl) (fun _ _ _ h => h) (Or.inl ⟨by rfl, ?y6a6⟩) (by assumption) ?r6a6
    case y6a6 => (intro w hSw; obtain ⟨s1, s2⟩ := hSw; go_simp; (try with_reducible rfl))
    (try simp only [Act.put]); (try simp only [List.setIfInBounds_toArray]); (try simp only [List.set_cons_succ]); (try simp only [List.set_cons_zero])
    refine wpAnyH_take (i := 7) (oi := { dst := some 21, op := Op.fieldAddr 73 (Operand.tmp 20) 7, type := 0, pos := "scan.go:142", after := #[{ on := 6, ground := Ground.data }], guard := none }) (v := ?v7a7) rfl (by kernel_rfl) (by kernel_rfl) (by kernel_rfl) (fun _ _ _ h => h) (Or.inl ⟨by rfl, ?y7a7⟩) (by assumption) ?r7a7
    case y7a7 => (intro w hSw; obtain ⟨s1, s2⟩ := hSw; go_simp; (try with_reducible rfl))
    (try simp only [Act.put]); (try simp only [List.setIfInBounds_toArray]); (try simp only [List.set_cons_succ]); (try simp only [List.set_cons_zero])
    refine wpAnyH_take (i := 8) (oi := { dst := some 22, op := Op.load 24 (Operand.tmp 21), type := 24, pos := "scan.go:142", after := #[{ on := 7, ground := Ground.data }], guard := none }) (v := ?v8a8) rfl (by kernel_rfl) (by kernel_rfl) (by kernel_rfl) (fun _ _ _ h => h) (Or.inl ⟨by rfl, ?y8a8⟩) (by assumption) ?r8a8
    case y8a8 => (intro w hSw; obtain ⟨s1, s2⟩ := hSw; go_simp; (try with_reducible rfl))
    (try simp only [Act.put]); (try simp only [List.setIfInBounds_toArray]); (try simp only [List.set_cons_succ]); (try simp only [List.set_cons_zero])
    refine wpAnyH_ready (rs := [4, 9]) (by kernel_rfl) (by simp) ?_
    refine AllReadyH.cons (o := { dst := some 18, op := Op.load 58 (Operand.tmp 17), type := 58, pos := "scan.go:142", after := #[{ on := 3, ground := Ground.data }], guard := none }) rfl (fun Kc hK => ?_) ?_
    go_simp
    refine hK.out _ _ hHeld (fun hHeld => ?_)
    clear hK Kc
    (try simp only [Act.put]); (try simp only [List.setIfInBounds_toArray]); (try simp only [List.set_cons_succ]); (try simp only [List.set_cons_zero])
    refine wpAnyH_ready (rs := [9]) (by kernel_rfl) (by simp) ?_
    refine AllReadyH.cons (o := { dst := some 23, op := Op.buildSlice 58 1 #[(0, Operand.tmp 22)], type := 58, pos := "scan.go:142", after := #[{ on := 8, ground := Ground.data }], guard := none }) rfl (fun Kc hK => ?_) AllReadyH.nil
    go_simp
    refine hK.out _ _ (goS _) (fun hHeld => ?_)
    clear hK Kc
    (try simp only [Act.put]); (try simp only [List.setIfInBounds_toArray]); (try simp only [List.set_cons_succ]); (try simp only [List.set_cons_zero])
    rotate_left
    refine AllReadyH.cons (o := { dst := some 23, op := Op.buildSlice 58 1 #[(0, Operand.tmp 22)], type := 58, pos := "scan.go:142", after := #[{ on := 8, ground := Ground.data }], guard := none }) rfl (fun Kc hK => ?_) AllReadyH.nil
    go_simp
    refine hK.out _ _ (goS _) (fun hHeld => ?_)
    clear hK Kc
    (try simp only [Act.put]); (try simp only [List.setIfInBounds_toArray]); (try simp only [List.set_cons_succ]); (try simp only [List.set_cons_zero])
    refine wpAnyH_ready (rs := [4]) (by kernel_rfl) (by simp) ?_
    refine AllReadyH.cons (o := { dst := some 18, op := Op.load 58 (Operand.tmp 17), type := 58, pos := "scan.go:142", after := #[{ on := 3, ground := Ground.data }], guard := none }) rfl (fun Kc hK => ?_) AllReadyH.nil
    go_simp
    refine hK.out _ _ hHeld (fun hHeld => ?_)
    clear hK Kc
    (try simp only [Act.put]); (try simp only [List.setIfInBounds_toArray]); (try simp only [List.set_cons_succ]); (try simp only [List.set_cons_zero])
    · refine wpAnyH_ready (rs := [10]) (by kernel_rfl) (by simp) ?_
      refine AllReadyH.cons (o := { dst := some 24, op := Op.call { callee := Callee.builtin Builtin.append, args := #[Operand.tmp 18, Operand.tmp 23], argTypes := #[58, 58] }, type := 58, pos := "scan.go:142", after := #[{ on := 4, ground := Ground.data }, { on := 9, ground := Ground.data }], guard := none }) rfl (fun Kc hK => ?_) AllReadyH.nil
      refine step_append_msgs rfl (.tmp 18) (.tmp 23) rfl wo s.ms.length wc _ (by rfl) HWo.out _ 1 [.slice mo ml mc, .slice bo bl bc] (by rfl) HSr.out (by omega) (by omega) ?_
      intro wo' wc' W3 hown hgrow hblk
      obtain ⟨hb3, hR4⟩ := HR.out.pushed hR1 hR2 gW2 hown hgrow hblk
      have e1 : W3.cell? ⟨p, 8, none⟩ = some (.slice mo ml mc) := by simp [World.cell?, hb3, scCells, rv, hR1]
      have e2 : W3.cell? ⟨p, 9, none⟩ = some (.slice bo bl bc) := by simp [World.cell?, hb3, scCells, rv, hR2]
      have e3 : W3.cell? ⟨p, 10, none⟩ = some (.slice wo s.ms.length wc) := by simp [World.cell?, hb3, scCells]
      have f3 : W3.frozen? ⟨p, 10, none⟩ = false := frz hb3 10
      have HR4 := hidM hR4
      clear hown hgrow hblk
      refine hK.out _ _ ⟨e1, e2⟩ (fun hHeld => ?_)
      clear hK Kc
      (try simp only [Act.put]); (try simp only [List.setIfInBounds_toArray]); (try simp only [List.set_cons_succ]); (try simp only [List.set_cons_zero])
      refine wpAnyH_take (i := 11) (oi := { dst := some 25, op := Op.nilCheck (Operand.tmp 14), type := 0, pos := "scan.go:142", after := #[{ on := 0, ground := Ground.data }, { on := 0, ground := Ground.phase }, { on := 1, ground := Ground.phase }, { on := 2, ground := Ground.phase }, { on := 3, ground := Ground.phase }, { on := 4, ground := Ground.phase }, { on := 5, ground := Ground.phase }, { on := 6, ground := Ground.phase }, { on := 7, ground := Ground.phase }, { on := 8, ground := Ground.phase }, { on := 9, ground := Ground.phase }, { on := 10, ground := Ground.phase }], guard := none }) (v := ?v11b1) rfl (by kernel_rfl) (by kernel_rfl) (by kernel_rfl) (fun _ _ _ h => h) (Or.inl ⟨by rfl, ?y11b1⟩) (by assumption) ?r11b1
      case y11b1 => (intro w hSw; obtain ⟨s1, s2⟩ := hSw; go_simp; (try with_reducible rfl))
      (try simp only [Act.put]); (try simp only [List.setIfInBounds_toArray]); (try simp only [List.set_cons_succ]); (try simp only [List.set_cons_zero])
      refine wpAnyH_take (i := 12) (oi := { dst := some 26, op := Op.fieldAddr 73 (Operand.tmp 25) 8, type := 0, pos := "scan.go:142", after := #[{ on := 11, ground := Ground.data }, { on := 0, ground := Ground.phase }, { on := 1, ground := Ground.phase }, { on := 2, ground := Ground.phase }, { on := 3, ground := Ground.phase }, { on := 4, ground := Ground.phase }, { on := 5, ground := Ground.phase }, { on := 6, ground := Ground.phase }, { on := 7, ground := Ground.phase }, { on := 8, ground := Ground.phase }, { on := 9, ground := Ground.phase }, { on := 10, ground := Ground.phase }], guard := none }) (v := ?v12b2) rfl (by kernel_rfl) (by kernel_rfl) (by kernel_rfl) (fun _ _ _ h => h) (Or.inl ⟨by rfl, ?y12b2⟩) (by assumption) ?r12b2
      case y12b2 => (intro w hSw; obtain ⟨s1, s2⟩ := hSw; go_simp; (try with_reducible rfl))
      (try simp only [Act.put]); (try simp only [List.setIfInBounds_toArray]); (try simp only [List.set_cons_succ]); (try simp only [List.set_cons_zero])
      refine wpAnyH_ready (rs := [13]) (by kernel_rfl) (by simp) ?_
      refine AllReadyH.cons (o := { dst := none, op := Op.store 58 (Operand.tmp 26) (Operand.tmp 24), type := 0, pos := "scan.go:142", after := #[{ on := 12, ground := Ground.data }, { on := 10, ground := Ground.data }, { on := 10, ground := Ground.chain }, { on := 0, ground := Ground.phase }, { on := 1, ground := Ground.phase }, { on := 2, ground := Ground.phase }, { on := 3, ground := Ground.phase }, { on := 4, ground := Ground.phase }, { on := 5, ground := Ground.phase }, { on := 6, ground := Ground.phase }, { on := 7, ground := Ground.phase }, { on := 8, ground := Ground.phase }, { on := 9, ground := Ground.phase }, { on := 10, ground := Ground.phase }], guard := none }) rfl (fun Kc hK => ?_) AllReadyH.nil
      go_simp
      have e4 : (W3.setCell ⟨p, 10, none⟩ (.slice wo' (s.ms.length + 1) wc')).cell? ⟨p, 8, none⟩ = some (.slice mo ml mc) := by have := HR4.out.1.cells (j := 8) (v := rv (push2 R s.ms.length 1)) rfl; rw [push2_1, hR1] at this; exact this
      have e5 : (W3.setCell ⟨p, 10, none⟩ (.slice wo' (s.ms.length + 1) wc')).cell? ⟨p, 9, none⟩ = some (.slice bo bl bc) := by have := HR4.out.1.cells (j := 9) (v := rv (push2 R s.ms.length 2)) rfl; rw [push2_2, hR2] at this; exact this
      refine hK.out _ _ ⟨e4, e5⟩ (fun hHeld => ?_)
      clear hK Kc
      (try simp only [Act.put]); (try simp only [List.setIfInBounds_toArray]); (try simp only [List.set_cons_succ]); (try simp only [List.set_cons_zero])
      refine wpAnyH_done (by kernel_rfl) ?_ _
      obtain ⟨V5, hV5⟩ : ∃ V5, V5 = W3.setCell ⟨p, 10, none⟩ (.slice wo' (s.ms.length + 1) wc') := ⟨_, rfl⟩
      rw [← hV5] at HR4 ⊢
      have HBg := hidM (begin76 (st := 0) HR4.out.1 (by omega))
      clear hV5 e1 e2 e3 e4 e5 f3 hb3 hR4 hHeld
      go_wp2_with (go_at_call 49; refine Hid.out ?_)
      unfold Hid
      refine Calls.mono HBg.out ?_
      rintro e V6 ⟨rfl, hD⟩
      have HFin : Hid (RdDone w W V6 p 76 [x, y] s.ms.length R wo wc (beginF { s with ms := s.ms ++ [(s.md, s.bd)] } 0)) := by
        have hD' := hD
        rw [ms_len] at hD'
        exact RdDone.trans (s1 := { s with ms := s.ms ++ [(s.md, s.bd)] }) HR4.out.2.1 HR4.out.2.2 (by rw [ms_len]; exact hD')
      clear hD
      go_wp2_with fail
      go_ret
      exact ⟨by rw [HE.out]; rfl, by rw [HE.out]; exact HFin.out⟩
    · refine wpAnyH_ready (rs := [10]) (by kernel_rfl) (by simp) ?_
      refine AllReadyH.cons (o := { dst := some 24, op := Op.call { callee := Callee.builtin Builtin.append, args := #[Operand.tmp 18, Operand.tmp 23], argTypes := #[58, 58] }, type := 58, pos := "scan.go:142", after := #[{ on := 4, ground := Ground.data }, { on := 9, ground := Ground.data }], guard := none }) rfl (fun Kc hK => ?_) AllReadyH.nil
      refine step_append_msgs rfl (.tmp 18) (.tmp 23) rfl wo s.ms.length wc _ (by rfl) HWo.out _ 1 [.slice mo ml mc, .slice bo bl bc] (by rfl) HSr.out (by omega) (by omega) ?_
      intro wo' wc' W3 hown hgrow hblk
      obtain ⟨hb3, hR4⟩ := HR.out.pushed hR1 hR2 gW2 hown hgrow hblk
      have e1 : W3.cell? ⟨p, 8, none⟩ = some (.slice mo ml mc) := by simp [World.cell?, hb3, scCells, rv, hR1]
      have e2 : W3.cell? ⟨p, 9, none⟩ = some (.slice bo bl bc) := by simp [World.cell?, hb3, scCells, rv, hR2]
      have e3 : W3.cell? ⟨p, 10, none⟩ = some (.slice wo s.ms.length wc) := by simp [World.cell?, hb3, scCells]
      have f3 : W3.frozen? ⟨p, 10, none⟩ = false := frz hb3 10
      have HR4 := hidM hR4
      clear hown hgrow hblk
      refine hK.out _ _ ⟨e1, e2⟩ (fun hHeld => ?_)
      clear hK Kc
      (try simp only [Act.put]); (try simp only [List.setIfInBounds_toArray]); (try simp only [List.set_cons_succ]); (try simp only [List.set_cons_zero])
      refine wpAnyH_take (i := 11) (oi := { dst := some 25, op := Op.nilCheck (Operand.tmp 14), type := 0, pos := "scan.go:142", after := #[{ on := 0, ground := Ground.data }, { on := 0, ground := Ground.phase }, { on := 1, ground := Ground.phase }, { on := 2, ground := Ground.phase }, { on := 3, ground := Ground.phase }, { on := 4, ground := Ground.phase }, { on := 5, ground := Ground.phase }, { on := 6, ground := Ground.phase }, { on := 7, ground := Ground.phase }, { on := 8, ground := Ground.phase }, { on := 9, ground := Ground.phase }, { on := 10, ground := Ground.phase }], guard := none }) (v := ?v11c1) rfl (by kernel_rfl) (by kernel_rfl) (by kernel_rfl) (fun _ _ _ h => h) (Or.inl ⟨by rfl, ?y11c1⟩) (by assumption) ?r11c1
      case y11c1 => (intro w hSw; obtain ⟨s1, s2⟩ := hSw; go_simp; (try with_reducible rfl))
      (try simp only [Act.put]); (try simp only [List.setIfInBounds_toArray]); (try simp only [List.set_cons_succ]); (try simp only [List.set_cons_zero])
      refine wpAnyH_take (i := 12) (oi := { dst := some 26, op := Op.fieldAddr 73 (Operand.tmp 25) 8, type := 0, pos := "scan.go:142", after := #[{ on := 11, ground := Ground.data }, { on := 0, ground := Ground.phase }, { on := 1, ground := Ground.phase }, { on := 2, ground := Ground.phase }, { on := 3, ground := Ground.phase }, { on := 4, ground := Ground.phase }, { on := 5, ground := Ground.phase }, { on := 6, ground := Ground.phase }, { on := 7, ground := Ground.phase }, { on := 8, ground := Ground.phase }, { on := 9, ground := Ground.phase }, { on := 10, ground := Ground.phase }], guard := none }) (v := ?v12c2) rfl (by kernel_rfl) (by kernel_rfl) (by kernel_rfl) (fun _ _ _ h => h) (Or.inl ⟨by rfl, ?y12c2⟩) (by assumption) ?r12c2
      case y12c2 => (intro w hSw; obtain ⟨s1, s2⟩ := hSw; go_simp; (try with_reducible rfl))
      (try simp only [Act.put]); (try simp only [List.setIfInBounds_toArray]); (try simp only [List.set_cons_succ]); (try simp only [List.set_cons_zero])
      refine wpAnyH_ready (rs := [13]) (by kernel_rfl) (by simp) ?_
      refine AllReadyH.cons (o := { dst := none, op := Op.store 58 (Operand.tmp 26) (Operand.tmp 24), type := 0, pos := "scan.go:142", after := #[{ on := 12, ground := Ground.data }, { on := 10, ground := Ground.data }, { on := 10, ground := Ground.chain }, { on := 0, ground := Ground.phase }, { on := 1, ground := Ground.phase }, { on := 2, ground := Ground.phase }, { on := 3, ground := Ground.phase }, { on := 4, ground := Ground.phase }, { on := 5, ground := Ground.phase }, { on := 6, ground := Ground.phase }, { on := 7, ground := Ground.phase }, { on := 8, ground := Ground.phase }, { on := 9, ground := Ground.phase }, { on := 10, ground := Ground.phase }], guard := none }) rfl (fun Kc hK => ?_) AllReadyH.nil
      go_simp
      have e4 : (W3.setCell ⟨p, 10, none⟩ (.slice wo' (s.ms.length + 1) wc')).cell? ⟨p, 8, none⟩ = some (.slice mo ml mc) := by have := HR4.out.1.cells (j := 8) (v := rv (push2 R s.ms.length 1)) rfl; rw [push2_1, hR1] at this; exact this
      have e5 : (W3.setCell ⟨p, 10, none⟩ (.slice wo' (s.ms.length + 1) wc')).cell? ⟨p, 9, none⟩ = some (.slice bo bl bc) := by have := HR4.out.1.cells (j := 9) (v := rv (push2 R s.ms.length 2)) rfl; rw [push2_2, hR2] at this; exact this
      refine hK.out _ _ ⟨e4, e5⟩ (fun hHeld => ?_)
      clear hK Kc
      (try simp only [Act.put]); (try simp only [List.setIfInBounds_toArray]); (try simp only [List.set_cons_succ]); (try simp only [List.set_cons_zero])
      refine wpAnyH_done (by kernel_rfl) ?_ _
      obtain ⟨V5, hV5⟩ : ∃ V5, V5 = W3.setCell ⟨p, 10, none⟩ (.slice wo' (s.ms.length + 1) wc') := ⟨_, rfl⟩
      rw [← hV5] at HR4 ⊢
      have HBg := hidM (begin76 (st := 0) HR4.out.1 (by omega))
      clear hV5 e1 e2 e3 e4 e5 f3 hb3 hR4 hHeld
      go_wp2_with (go_at_call 49; refine Hid.out ?_)
      unfold Hid
      refine Calls.mono HBg.out ?_
      rintro e V6 ⟨rfl, hD⟩
      have HFin : Hid (RdDone w W V6 p 76 [x, y] s.ms.length R wo wc (beginF { s with ms := s.ms ++ [(s.md, s.bd)] } 0)) := by
        have hD' := hD
        rw [ms_len] at hD'
        exact RdDone.trans (s1 := { s with ms := s.ms ++ [(s.md, s.bd)] }) HR4.out.2.1 HR4.out.2.2 (by rw [ms_len]; exact hD')
      clear hD
      go_wp2_with fail
      go_ret
      exact ⟨by rw [HE.out]; rfl, by rw [HE.out]; exact HFin.out⟩
end Go.Proofs.Ytemleibpmaclmaa.Kit
