import Derived.Test.YtdihbfjjddmbiaaGreatDoorXA
import Derived.Test.YtdihbfjjddmbiaaGreatDoorRK
set_option maxRecDepth 100000
set_option maxHeartbeats 4000000
namespace Go.Proofs.YtdihbfjjddmbiaaGreatDoor.Kit
open Go.RowKit Go.Shelf Go.Deep
set_option linter.unusedVariables false
attribute [local go_sem] run_store_func
def numX (B : List UInt8) (k : Nat) (s : DS) : Nat × DS := (leN (takeX B k s).1, (takeX B k s).2)
theorem takeX_len (B : List UInt8) (n : Nat) (s : DS) : (takeX B n s).1.length ≤ n := by
  unfold takeX
  split
  · simp
  split
  · simp
  simp; omega
theorem leN_drop {l : List UInt8} {j : Nat} (h : j < l.length) : leN (l.drop j) = 256 * leN (l.drop (j + 1)) + (l[j]).toNat := by
  rw [List.drop_eq_getElem_cons h, leN]
  omega
theorem leN_small {l : List UInt8} (h : l.length ≤ 4) (j : Nat) : leN (l.drop j) < 4294967296 := by
  have h1 := leN_lt (l.drop j)
  have h2 : (l.drop j).length ≤ 4 := by simp; omega
  have h3 : 256 ^ (l.drop j).length ≤ 256 ^ 4 := Nat.pow_le_pow_right (by decide) h2
  omega
theorem number17 (p : Nat) (bo : Option Addr) (B : List UInt8) (bc k : Nat) (hk : k ≤ 4) : DC p bo B bc 43 #[.pointer (some ⟨p, 0, none⟩), .int .i64 (k : Int)] (numX B k) (fun _ _ x v => v = .int .i64 (x : Int)) := by
  intro W s h
  have H := hidM (take32 p bo B bc k (by omega) W s h)
  have hlen := Nat.le_trans (takeX_len B k s) hk
  unfold numX
  obtain ⟨l, hl⟩ : ∃ l, l = (takeX B k s).1 := ⟨_, rfl⟩
  rw [← hl] at H hlen ⊢
  have HL : Hid (l.length ≤ 4) := hlen
  clear h hl
  go_enter Tryz.func43, Tryz.ntmps43
  go_wp2_with (go_at_call 61; refine Hid.out ?_)
  unfold Hid
  refine Calls.mono H.out ?_
  rintro e U ⟨v, rfl, ⟨lo, lc, rfl, hb⟩, hD, hK⟩
  have HB := hidM hb
  have HD := hidM hD
  have HK := hidM hK
  obtain ⟨n, hn⟩ : ∃ n, n = l.length := ⟨_, rfl⟩
  rw [← hn] at hlen ⊢
  have Hn := hidM hn
  have hw1 : IntKind.i64.wrap ((n : Int) - 1) = (n : Int) - 1 := by rw [IntKind.wrap_i64]; omega
  clear hb hD hK H hn
  go_wp2
  go_loopw [6, 7] (fun x i wr => ∃ j : Nat, j ≤ n ∧ i = .int .i64 ((j : Int) - 1) ∧ x = .int .i64 (leN (l.drop j) : Int) ∧ Hid (wr = U)) (fun _ i _ => (intOf i + 1).toNat)
  case atStart => exact ⟨n, Nat.le_refl _, rfl, by rw [Hn.out]; simp [leN], rfl⟩
  case round =>
    obtain ⟨j, hj, rfl, rfl, HW⟩ := hrel
    have hw := HW.out
    subst hw
    by_cases h0 : j = 0
    · subst h0
      have hng : ¬ (0 : Int) ≤ ((0 : Nat) : Int) - 1 := by omega
      obtain ⟨x, hx⟩ : ∃ x, x = leN (l.drop 0) := ⟨_, rfl⟩
      rw [← hx]
      have Hx := hidM hx
      clear hx
      go_wp2_with fail
      go_ret
      exact ⟨_, rfl, by rw [Hx.out, List.drop_zero]; rfl, HD.out, HK.out⟩
    obtain ⟨i, rfl⟩ : ∃ i, j = i + 1 := ⟨j - 1, by omega⟩
    have hil : i < l.length := by have := Hn.out; omega
    have hpo : (0 : Int) ≤ ((i + 1 : Nat) : Int) - 1 := by omega
    have hpe : (((i + 1 : Nat) : Int) - 1).toNat = i := by omega
    obtain ⟨c, o, rfl, hc⟩ := HB.out (fun e => by rw [e] at hil; simp at hil)
    have hci := hc i hil
    obtain ⟨y, hy⟩ : ∃ y : Nat, y = (l[i]).toNat := ⟨_, rfl⟩
    rw [← hy] at hci
    have hyb : y < 256 := by rw [hy]; exact (l[i]).toNat_lt
    have hsm := leN_small HL.out (i + 1)
    have hstep := leN_drop hil
    obtain ⟨x, hx⟩ : ∃ x, x = leN (l.drop (i + 1)) := ⟨_, rfl⟩
    rw [← hx] at hsm hstep ⊢
    rw [← hy] at hstep
    have hm1 : IntKind.i64.wrap (256 * (x : Int)) = 256 * (x : Int) := by rw [IntKind.wrap_i64]; omega
    have hm2 : IntKind.i64.wrap (256 * (x : Int) + (y : Int)) = 256 * (x : Int) + (y : Int) := by rw [IntKind.wrap_i64]; omega
    have hm3 : IntKind.i64.wrap (y : Int) = (y : Int) := by rw [IntKind.wrap_i64]; omega
    have hm4 : IntKind.i64.wrap (((i + 1 : Nat) : Int) - 1 - 1) = ((i + 1 : Nat) : Int) - 1 - 1 := by rw [IntKind.wrap_i64]; omega
    have hbd : ((i + 1 : Nat) : Int) - 1 < (n : Int) := by omega
    have Hst := hidM hstep
    have hz : ((i + 1 : Nat) : Int) - 1 = (i : Int) := by omega
    rw [hz] at hpo hpe hm4 hbd ⊢
    clear hstep hx hc hy
    go_wp2_with fail
    go_roundw
    case rel => exact ⟨i, by omega, by simp, by rw [Hst.out]; simp, by first | exact rfl | (unfold Hid; trivial)⟩
    case measure => first | (simp [intOf]; done) | (simp [intOf]; omega)
def withX (B : List UInt8) (lo hi : Nat) (s : DS) : Nat × DS :=
  if (numX B 1 s).2.e = 0 ∧ ((numX B 1 s).1 < lo ∨ hi < (numX B 1 s).1) then ((numX B 1 s).1, { (numX B 1 s).2 with e := 8, f := s.a }) else numX B 1 s
theorem within15 (p : Nat) (bo : Option Addr) (B : List UInt8) (bc lo hi : Nat) : DC p bo B bc 41 #[.pointer (some ⟨p, 0, none⟩), .int .i64 (lo : Int), .int .i64 (hi : Int)] (withX B lo hi) (fun _ _ x v => v = .int .i64 (x : Int)) := by
  intro W s h
  have H := hidM (number17 p bo B bc 1 (by omega) W s h)
  obtain ⟨c0, c1, c2, c3, c4, c5⟩ := h.cells
  obtain ⟨r, hr⟩ : ∃ r, r = withX B lo hi s := ⟨_, rfl⟩
  rw [← hr]
  unfold withX at hr
  obtain ⟨q, hq⟩ : ∃ q, q = numX B 1 s := ⟨_, rfl⟩
  rw [← hq] at H hr
  obtain ⟨x, t⟩ := q
  obtain ⟨a, ha⟩ : ∃ a, a = s.a := ⟨_, rfl⟩
  rw [← ha] at c1 hr
  dsimp only at hr
  have HR := hidM hr
  clear h hq ha hr
  go_enter Tryz.func41, Tryz.ntmps41
  go_wp2_with (go_at_call 43; refine Hid.out ?_)
  unfold Hid
  refine Calls.mono H.out ?_
  rintro e U ⟨v, rfl, rfl, hD, hK⟩
  have HK := hidM hK
  have HD := hidM hD
  obtain ⟨d0, d1, d2, d3, d4, d5⟩ := hD.cells
  clear hD hK H c0 c1 c2 c3 c4 c5
  dsimp only at *
  by_cases he : t.e = 0
  · rw [he] at d3
    have He := hidM he
    by_cases hx : x < lo ∨ hi < x
    · have HE : Hid (r = (x, { t with e := 8, f := a })) := HR.out.trans (if_pos ⟨he, hx⟩)
      clear he HR
      by_cases hxl : x < lo
      · have hx1 : (x : Int) < (lo : Int) := by omega
        clear hx hxl
        go_wp2_with (go_at_call 45; refine Hid.out ?_)
        unfold Hid
        refine Calls.mono (wrong19 HD.out He.out 8 a) ?_
        rintro e V ⟨rfl, hV, hk⟩
        have HV := hidM hV
        have HKV := hidM (HK.out.tr hk)
        clear hV hk
        go_wp2_with fail
        go_ret
        rw [HE.out]
        exact ⟨_, rfl, rfl, HV.out, HKV.out⟩
      have hx1 : ¬ (x : Int) < (lo : Int) := by omega
      have hx2 : (hi : Int) < (x : Int) := by omega
      clear hx hxl
      go_wp2_with (go_at_call 45; refine Hid.out ?_)
      unfold Hid
      refine Calls.mono (wrong19 HD.out He.out 8 a) ?_
      rintro e V ⟨rfl, hV, hk⟩
      have HV := hidM hV
      have HKV := hidM (HK.out.tr hk)
      clear hV hk
      go_wp2_with fail
      go_ret
      rw [HE.out]
      exact ⟨_, rfl, rfl, HV.out, HKV.out⟩
    have HE : Hid (r = (x, t)) := HR.out.trans (if_neg (fun h => hx h.2))
    have hx1 : ¬ (x : Int) < (lo : Int) := by omega
    have hx2 : ¬ (hi : Int) < (x : Int) := by omega
    clear hx he
    go_wp2_with fail
    go_ret
    rw [HE.out]
    exact ⟨_, rfl, rfl, HD.out, HK.out⟩
  have HE : Hid (r = (x, t)) := HR.out.trans (if_neg (fun h => he h.1))
  have he' : (t.e == 0) = false := by simp [he]
  go_wp2_with fail
  go_ret
  rw [HE.out]
  exact ⟨_, rfl, rfl, HD.out, HK.out⟩
def textX (B : List UInt8) (k : Nat) (s : DS) : ByteArray × DS := (⟨(takeX B (numX B k s).1 (numX B k s).2).1.toArray⟩, (takeX B (numX B k s).1 (numX B k s).2).2)
theorem numX_lt (B : List UInt8) (k : Nat) (hk : k ≤ 4) (s : DS) : (numX B k s).1 < 4294967296 := by
  have := leN_small (Nat.le_trans (takeX_len B k s) hk) 0
  simpa [numX] using this
theorem text31 (p : Nat) (bo : Option Addr) (B : List UInt8) (bc k : Nat) (hk : k ≤ 4) : DC p bo B bc 60 #[.pointer (some ⟨p, 0, none⟩), .int .i64 (k : Int)] (textX B k) (fun _ _ x v => v = .string x) := by
  intro W s h
  have H := hidM (number17 p bo B bc k hk W s h)
  have hlt := numX_lt B k hk s
  unfold textX
  obtain ⟨q, hq⟩ : ∃ q, q = numX B k s := ⟨_, rfl⟩
  rw [← hq] at H hlt ⊢
  obtain ⟨n, t⟩ := q
  clear h hq
  go_enter Tryz.func60, Tryz.ntmps60
  go_wp2_with (go_at_call 43; refine Hid.out ?_)
  unfold Hid
  refine Calls.mono H.out ?_
  rintro e U ⟨v, rfl, rfl, hD, hK⟩
  dsimp only at *
  have H2 := hidM (take32 p bo B bc n (by omega) U t hD)
  have HK := hidM hK
  clear hD hK H
  go_wp2_with (go_at_call 61; refine Hid.out ?_)
  unfold Hid
  refine Calls.mono H2.out ?_
  rintro e V ⟨v, rfl, ⟨lo, lc, rfl, hb⟩, hD, hK⟩
  have hcv := bytes_string (vc := lc) hb
  have HD := hidM hD
  have HKV := hidM (HK.out.tr hK)
  clear hb hD hK H2 HK
  go_wp2_with fail
  go_ret
  exact ⟨_, rfl, rfl, HD.out, HKV.out⟩
def zF : FT := .mk ⟨#[]⟩ false 0 0 0 0 []
def extX (B : List UInt8) (k : Nat) (s : DS) : (Nat × Nat × Nat × Nat) × DS :=
  if k = 14 then (((numX B 2 s).1, 0, 0, 0), (numX B 2 s).2)
  else if k = 16 then (((numX B 2 s).1, 0, 0, 1), (numX B 2 s).2)
  else if k = 19 then ((0, (numX B 2 s).1, (numX B 1 (numX B 2 s).2).1, 1), (numX B 1 (numX B 2 s).2).2)
  else if k = 17 ∨ k = 18 then ((0, 0, 0, (numX B 1 s).1), (numX B 1 s).2)
  else if k = 15 ∨ k = 20 then ((0, 0, 0, 1), s) else ((0, 0, 0, 0), s)
def sevX {α : Type} (r : DS → α × DS) : Nat → List α → DS → List α × DS
  | 0, acc, s => (acc, s)
  | n + 1, acc, s => if s.e ≠ 0 then (acc, s) else sevX r n (acc ++ [(r s).1]) (r s).2
def fldX (B : List UInt8) (r : DS → FT × DS) (s : DS) : FT × DS :=
  let n := textX B 1 s
  let y := withX B 0 1 n.2
  let k := withX B 1 20 y.2
  let x := extX B k.1 k.2
  let l := sevX r x.1.2.2.2 [] x.2
  (.mk n.1 (y.1 == 1) (k.1 : Int) (x.1.1 : Int) (x.1.2.1 : Int) (x.1.2.2.1 : Int) l.1, l.2)
def fieldX (B : List UInt8) : Nat → DS → FT × DS
  | 0, s => if s.e ≠ 0 then (zF, s) else (zF, { s with g := s.g + 1, e := 50, f := s.a })
  | d + 1, s => if s.e ≠ 0 then (zF, s) else if s.g = 256 then (zF, { s with g := s.g + 1, e := 50, f := s.a }) else fldX B (fieldX B d) { s with g := s.g + 1 }
def Gd (s : DS) : Prop := s.e = 0 → s.g ≤ 256
theorem Gd.take {B : List UInt8} {n : Nat} {s : DS} (h : Gd s) : Gd (takeX B n s).2 := by
  unfold takeX
  split
  · exact h
  split
  · intro e; cases e
  exact h
theorem Gd.num {B : List UInt8} {n : Nat} {s : DS} (h : Gd s) : Gd (numX B n s).2 := h.take
theorem Gd.within {B : List UInt8} {lo hi : Nat} {s : DS} (h : Gd s) : Gd (withX B lo hi s).2 := by
  unfold withX
  split
  · intro e; cases e
  exact h.num
theorem Gd.text {B : List UInt8} {n : Nat} {s : DS} (h : Gd s) : Gd (textX B n s).2 := h.num.take
theorem Gd.ext {B : List UInt8} {k : Nat} {s : DS} (h : Gd s) : Gd (extX B k s).2 := by
  unfold extX
  repeat' split
  all_goals first | exact h.num | exact h.num.num | exact h
theorem Gd.sev {α : Type} {r : DS → α × DS} (hr : ∀ s, Gd s → Gd (r s).2) : ∀ (n : Nat) (acc : List α) (s : DS), Gd s → Gd (sevX r n acc s).2
  | 0, _, _, h => h
  | n + 1, acc, s, h => by
    rw [sevX]
    split
    · exact h
    exact Gd.sev hr n _ _ (hr s h)
theorem Gd.field {B : List UInt8} : ∀ (d : Nat) (s : DS), Gd s → Gd (fieldX B d s).2
  | 0, s, h => by
    rw [fieldX]
    split
    · exact h
    intro e; cases e
  | d + 1, s, h => by
    rw [fieldX]
    split
    · exact h
    split
    · intro e; cases e
    rename_i h1 h2
    have h3 : Gd { s with g := s.g + 1 } := fun e => by have := h (by simpa using h1); show s.g + 1 ≤ 256; omega
    exact Gd.sev (fun s hs => Gd.field d s hs) _ _ _ h3.text.within.within.ext
theorem DAt.over {W U U' : World} {p : Nat} {bo : Option Addr} {B : List UInt8} {bc : Nat} {s0 s : DS} (h0 : DAt W p bo B bc s0) (h : DAt U p bo B bc s) (k : Keeps W U' (fun z => z = p)) (hb : U'.heap[p]? = U.heap[p]?) : DAt U' p bo B bc s :=
  ⟨hb.trans h.box, h0.bytes.kp (p := p) k h0.ne, h.form, h.ne, h.len, h.pos, h.few⟩
theorem FB.set {W U : World} {p b c : Nat} {x0 x1 x2 x3 x4 x5 x6 y0 y1 y2 y3 y4 y5 y6 : Value} (h : FB W U p b c x0 x1 x2 x3 x4 x5 x6) (i : Nat) (v : Value) (e : (#[x0, x1, x2, x3, x4, x5, x6] : Array Value).setIfInBounds i v = #[y0, y1, y2, y3, y4, y5, y6]) : FB W (U.setCell ⟨c, i, none⟩ v) p b c y0 y1 y2 y3 y4 y5 y6 := by
  refine ⟨?_, ?_, h.lt⟩
  · exact (((Keeps.refl U (fun z => z = c)).setCell (p := ⟨c, i, none⟩) (fun _ => rfl) v).block b (lt_of_heap h.rb) (by have := h.lt; omega)).trans h.rb
  rw [heap_setCell_same U c i _ _ v h.tb, e]
theorem kp_set {W U : World} {p c : Nat} (h : Keeps W U (fun z => z = p)) (hc : W.heap.size ≤ c) (i : Nat) (v : Value) : Keeps W (U.setCell ⟨c, i, none⟩ v) (fun z => z = p) :=
  h.trans ((Keeps.refl U (fun z => z = c)).setCell (p := ⟨c, i, none⟩) (fun _ => rfl) v) fun j hj e => by omega
theorem DAt.set {W U : World} {p : Nat} {bo : Option Addr} {B : List UInt8} {bc : Nat} {s0 s : DS} {c : Nat} (h0 : DAt W p bo B bc s0) (h : DAt U p bo B bc s) (k : Keeps W U (fun z => z = p)) (hc : W.heap.size ≤ c) (i : Nat) (v : Value) : DAt (U.setCell ⟨c, i, none⟩ v) p bo B bc s :=
  DAt.over h0 h (kp_set k hc i v) (((Keeps.refl U (fun z => z = c)).setCell (p := ⟨c, i, none⟩) (fun _ => rfl) v).block p h.lt (by have := h0.lt; omega))
def DCg {α : Type} (p : Nat) (bo : Option Addr) (B : List UInt8) (bc : Nat) (F : Nat) (args : Array Value) (r : DS → α × DS) (V : World → World → α → Value → Prop) : Prop :=
  ∀ W s, DAt W p bo B bc s → Gd s → Calls Tryz.prog F args W fun e w' => ∃ v, e = .returned v ∧ V W w' (r s).1 v ∧ DAt w' p bo B bc (r s).2 ∧ Keeps W w' (fun z => z = p)
theorem field30_no (p : Nat) (bo : Option Addr) (B : List UInt8) (bc D d : Nat) (ar : Int) (W : World) (s : DS) (h : DAt W p bo B bc s) (hg : Gd s) (hc : s.e ≠ 0 ∨ s.g = 256 ∨ 64 ≤ ar) (r : FT × DS) (hr : r = if s.e ≠ 0 then (zF, s) else (zF, { s with g := s.g + 1, e := 50, f := s.a })) :
    Calls Tryz.prog 59 #[.pointer (some ⟨p, 0, none⟩), .int .i64 ar] W fun e w' => ∃ v, e = .returned v ∧ FV D W w' r.1 v ∧ DAt w' p bo B bc r.2 ∧ Keeps W w' (fun z => z = p) := by
  obtain ⟨V, hV⟩ := ex ((W.alloc (.cells #[.string ⟨#[]⟩, .bool false, .int .i64 0, .int .i64 0, .int .i64 0, .int .i64 0, .slice none 0 0] 52)).alloc (.cells #[.string ⟨#[]⟩, .bool false, .int .i64 0, .int .i64 0, .int .i64 0, .int .i64 0, .slice none 0 0] 52))
  obtain ⟨b, hb⟩ : ∃ b, b = W.heap.size := ⟨_, rfl⟩
  have s1 : (W.alloc (.cells #[.string ⟨#[]⟩, .bool false, .int .i64 0, .int .i64 0, .int .i64 0, .int .i64 0, .slice none 0 0] 52)).heap.size = b + 1 := by rw [hb]; simp
  have g1 := gr_alloc W (.cells #[.string ⟨#[]⟩, .bool false, .int .i64 0, .int .i64 0, .int .i64 0, .int .i64 0, .slice none 0 0] 52)
  have g2 := gr_alloc (W.alloc (.cells #[.string ⟨#[]⟩, .bool false, .int .i64 0, .int .i64 0, .int .i64 0, .int .i64 0, .slice none 0 0] 52)) (.cells #[.string ⟨#[]⟩, .bool false, .int .i64 0, .int .i64 0, .int .i64 0, .int .i64 0, .slice none 0 0] 52)
  have c1 := heap_alloc_new W (.cells #[.string ⟨#[]⟩, .bool false, .int .i64 0, .int .i64 0, .int .i64 0, .int .i64 0, .slice none 0 0] 52)
  have c2 := heap_alloc_new (W.alloc (.cells #[.string ⟨#[]⟩, .bool false, .int .i64 0, .int .i64 0, .int .i64 0, .int .i64 0, .slice none 0 0] 52)) (.cells #[.string ⟨#[]⟩, .bool false, .int .i64 0, .int .i64 0, .int .i64 0, .int .i64 0, .slice none 0 0] 52)
  rw [← hb] at c1
  rw [s1] at c2
  have g12 := g1.tr g2
  rw [hV] at g2 g12 c2
  have hB0 : FB W V p b (b + 1) (.string ⟨#[]⟩) (.bool false) (.int .i64 0) (.int .i64 0) (.int .i64 0) (.int .i64 0) (.slice none 0 0) := ⟨(g2.block b (lt_of_heap c1) id).trans c1, c2, by omega, by omega, h.lt⟩
  have hD0 := h.gr g12
  have HG0 : Hid (Keeps W V (fun z => z = p)) := g12.mono fun _ _ h => h.elim
  have HW0 := hidM h
  have HBx0 := hidM hB0
  have HD0 := hidM hD0
  have HV := hidM hV
  have Hb := hidM hb
  obtain ⟨d0, d1, d2, d3, d4, d5⟩ := hD0.cells
  have f2 := frz hD0.box 2
  by_cases he : s.e = 0
  · have HR : Hid (r = (zF, { s with g := s.g + 1, e := 50, f := s.a })) := hr.trans (if_neg (by simp [he]))
    have hgl := hg he
    rw [he] at d3
    obtain ⟨g, hgg⟩ : ∃ g, g = s.g := ⟨_, rfl⟩
    rw [← hgg] at d2 hgl hc
    have hwg : IntKind.i64.wrap ((g : Int) + 1) = (g : Int) + 1 := by rw [IntKind.wrap_i64]; omega
    have hgc : ((g + 1 : Nat) : Int) = (g : Int) + 1 := by omega
    have hM := hD0.more (by omega)
    rw [← hgg, hgc] at hM
    obtain ⟨U, hU⟩ := ex (V.setCell ⟨p, 2, none⟩ (.int .i64 ((g : Int) + 1)))
    rw [hU] at hM
    have kU : Keeps V U (fun z => z = p) := by rw [← hU]; exact (Keeps.refl V (fun z => z = p)).setCell (p := ⟨p, 2, none⟩) (fun _ => rfl) _
    have HM := hidM hM
    have HKU := hidM kU
    have HBU := hidM (hB0.kp kU)
    have HGU : Hid (Keeps W U (fun z => z = p)) := HG0.out.tr kU
    obtain ⟨m0, m1, m2, m3, m4, m5⟩ := hM.cells
    obtain ⟨a, ha⟩ : ∃ a, a = s.a := ⟨_, rfl⟩
    dsimp only at m1 m2 m3
    rw [← ha] at m1
    rw [hgc] at m2
    rw [he] at m3
    have Ha := hidM ha
    have Hgg := hidM hgg
    have He := hidM he
    clear h hg hr hb s1 g1 g2 c1 c2 g12 hB0 hD0 hM kU ha hgg he
    clear hgc
    by_cases hgt : g = 256
    · have x1 : (256 : Int) < (g : Int) + 1 := by omega
      clear hc hgt
      go_enter Tryz.func59, Tryz.ntmps59
      go_wp2_with (go_at_call 45; refine Hid.out ?_)
      unfold Hid
      rw [← Hb.out]
      clear hV hU
      refine Calls.mono (wrong19 HM.out He.out 50 a) ?_
      rintro e Y ⟨rfl, hY, kY⟩
      have HBY := hidM (HBU.out.kp kY)
      have HGY : Hid (Keeps W Y (fun z => z = p)) := HGU.out.tr kY
      have HDY := hidM hY
      clear hY kY d0 d1 d2 d3 d4 d5 m0 m1 m2 m3 m4 m5
      obtain ⟨r0, r1, r2, r3, r4, r5, r6⟩ := ce7 HBY.out.rb
      obtain ⟨q0, q1, q2, q3, q4, q5, q6⟩ := fz7 HBY.out.rb
      obtain ⟨t0, t1, t2, t3, t4, t5, t6⟩ := ce7 HBY.out.tb
      have hE1 := put7_box (.string ⟨#[]⟩) (.bool false) (.int .i64 0) (.int .i64 0) (.int .i64 0) (.int .i64 0) (.slice none 0 0) HBY.out.rb
      have hE2 := put7_keeps Y b (.string ⟨#[]⟩) (.bool false) (.int .i64 0) (.int .i64 0) (.int .i64 0) (.int .i64 0) (.slice none 0 0)
      obtain ⟨X, hX⟩ := ex ((((((((Y.setCell ⟨b, 0, none⟩ (.string ⟨#[]⟩)).setCell ⟨b, 1, none⟩ (.bool false)).setCell ⟨b, 2, none⟩ (.int .i64 0)).setCell ⟨b, 3, none⟩ (.int .i64 0)).setCell ⟨b, 4, none⟩ (.int .i64 0)).setCell ⟨b, 5, none⟩ (.int .i64 0)).setCell ⟨b, 6, none⟩ (.slice none 0 0)))
      rw [hX] at hE1 hE2
      have HE1 := hidM hE1
      have HE2 := hidM hE2
      clear hE1 hE2
      go_wp2_with fail
      have kX : Keeps W X (fun z => z = p) := HGY.out.trans HE2.out fun j hj e => by have := Hb.out; omega
      have dX := DAt.over HW0.out HDY.out kX (HE2.out.block p HDY.out.lt (by have := HW0.out.lt; have := Hb.out; omega))
      (try simp only [Exit.inBlock, Exit.then])
      refine bodyPost_ret (results_cell80 rfl rfl HE1.out (by kernel_rfl)) rfl ?_
      have hfin : r = (zF, { s with g := g + 1, e := 50, f := a }) := by rw [HR.out, Hgg.out, Ha.out]
      rw [hfin]
      exact ⟨_, rfl, ⟨none, 0, rfl, Nat.le_refl _, RowI.nil _ _ _ _⟩, dX, kX⟩
    have x1 : ¬ (256 : Int) < (g : Int) + 1 := by omega
    have x2 : (64 : Int) ≤ ar := by rcases hc with q | q | q; exact absurd He.out q; exact absurd q hgt; exact q
    clear hc
    go_enter Tryz.func59, Tryz.ntmps59
    go_wp2_with (go_at_call 45; refine Hid.out ?_)
    unfold Hid
    rw [← Hb.out]
    clear hV hU
    refine Calls.mono (wrong19 HM.out He.out 50 a) ?_
    rintro e Y ⟨rfl, hY, kY⟩
    have HBY := hidM (HBU.out.kp kY)
    have HGY : Hid (Keeps W Y (fun z => z = p)) := HGU.out.tr kY
    have HDY := hidM hY
    clear hY kY d0 d1 d2 d3 d4 d5 m0 m1 m2 m3 m4 m5
    obtain ⟨r0, r1, r2, r3, r4, r5, r6⟩ := ce7 HBY.out.rb
    obtain ⟨q0, q1, q2, q3, q4, q5, q6⟩ := fz7 HBY.out.rb
    obtain ⟨t0, t1, t2, t3, t4, t5, t6⟩ := ce7 HBY.out.tb
    have hE1 := put7_box (.string ⟨#[]⟩) (.bool false) (.int .i64 0) (.int .i64 0) (.int .i64 0) (.int .i64 0) (.slice none 0 0) HBY.out.rb
    have hE2 := put7_keeps Y b (.string ⟨#[]⟩) (.bool false) (.int .i64 0) (.int .i64 0) (.int .i64 0) (.int .i64 0) (.slice none 0 0)
    obtain ⟨X, hX⟩ := ex ((((((((Y.setCell ⟨b, 0, none⟩ (.string ⟨#[]⟩)).setCell ⟨b, 1, none⟩ (.bool false)).setCell ⟨b, 2, none⟩ (.int .i64 0)).setCell ⟨b, 3, none⟩ (.int .i64 0)).setCell ⟨b, 4, none⟩ (.int .i64 0)).setCell ⟨b, 5, none⟩ (.int .i64 0)).setCell ⟨b, 6, none⟩ (.slice none 0 0)))
    rw [hX] at hE1 hE2
    have HE1 := hidM hE1
    have HE2 := hidM hE2
    clear hE1 hE2
    go_wp2_with fail
    have kX : Keeps W X (fun z => z = p) := HGY.out.trans HE2.out fun j hj e => by have := Hb.out; omega
    have dX := DAt.over HW0.out HDY.out kX (HE2.out.block p HDY.out.lt (by have := HW0.out.lt; have := Hb.out; omega))
    (try simp only [Exit.inBlock, Exit.then])
    refine bodyPost_ret (results_cell80 rfl rfl HE1.out (by kernel_rfl)) rfl ?_
    have hfin : r = (zF, { s with g := g + 1, e := 50, f := a }) := by rw [HR.out, Hgg.out, Ha.out]
    rw [hfin]
    exact ⟨_, rfl, ⟨none, 0, rfl, Nat.le_refl _, RowI.nil _ _ _ _⟩, dX, kX⟩
  have HR : Hid (r = (zF, s)) := hr.trans (if_pos he)
  have he' : (s.e == 0) = false := by simp [he]
  clear h hg hr hc hb s1 g1 g2 c1 c2 g12 hB0 hD0 he
  rw [Hb.out] at HBx0
  have Hb2 : Hid (W.heap.size = W.heap.size) := rfl
  obtain ⟨r0, r1, r2, r3, r4, r5, r6⟩ := ce7 HBx0.out.rb
  obtain ⟨q0, q1, q2, q3, q4, q5, q6⟩ := fz7 HBx0.out.rb
  obtain ⟨t0, t1, t2, t3, t4, t5, t6⟩ := ce7 HBx0.out.tb
  have hE1 := put7_box (.string ⟨#[]⟩) (.bool false) (.int .i64 0) (.int .i64 0) (.int .i64 0) (.int .i64 0) (.slice none 0 0) HBx0.out.rb
  have hE2 := put7_keeps V W.heap.size (.string ⟨#[]⟩) (.bool false) (.int .i64 0) (.int .i64 0) (.int .i64 0) (.int .i64 0) (.slice none 0 0)
  obtain ⟨X, hX⟩ := ex ((((((((V.setCell ⟨W.heap.size, 0, none⟩ (.string ⟨#[]⟩)).setCell ⟨W.heap.size, 1, none⟩ (.bool false)).setCell ⟨W.heap.size, 2, none⟩ (.int .i64 0)).setCell ⟨W.heap.size, 3, none⟩ (.int .i64 0)).setCell ⟨W.heap.size, 4, none⟩ (.int .i64 0)).setCell ⟨W.heap.size, 5, none⟩ (.int .i64 0)).setCell ⟨W.heap.size, 6, none⟩ (.slice none 0 0)))
  rw [hX] at hE1 hE2
  have HE1 := hidM hE1
  have HE2 := hidM hE2
  clear hE1 hE2
  go_enter Tryz.func59, Tryz.ntmps59
  go_wp2
  have kX : Keeps W X (fun z => z = p) := HG0.out.trans HE2.out fun j hj e => by omega
  have dX := DAt.over HW0.out HD0.out kX (HE2.out.block p HD0.out.lt (by have := HW0.out.lt; omega))
  (try simp only [Exit.inBlock, Exit.then])
  refine bodyPost_ret (results_cell80 rfl rfl HE1.out (by kernel_rfl)) rfl ?_
  rw [HR.out]
  exact ⟨_, rfl, ⟨none, 0, rfl, Nat.le_refl _, RowI.nil _ _ _ _⟩, dX, kX⟩
end Go.Proofs.YtdihbfjjddmbiaaGreatDoor.Kit
