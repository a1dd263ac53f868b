import Derived.Test.YtkodgneneiledaaGreatDoorUT
set_option maxRecDepth 100000
set_option maxHeartbeats 4000000
namespace Go.Proofs.YtkodgneneiledaaGreatDoor.Kit
open Go.RowKit Go.Shelf Go.Deep
set_option linter.unusedVariables false
attribute [local go_sem] run_store_func
def ncel (x : ByteArray × ByteArray) : List Value := [.string x.1, .string x.2]
theorem gr_drewP {W : World} : Gr W W.drew := (Keeps.refl W (fun _ => False)).drew
structure SB (W U : World) (p b c : Nat) (x y : Value) : Prop where
  rb : U.heap[b]? = some (.cells #[.slice none 0 0, .slice none 0 0] 27 (0, 0))
  tb : U.heap[c]? = some (.cells #[x, y] 27 (0, 0))
  lt : W.heap.size ≤ b ∧ b < c ∧ p < W.heap.size
theorem SB.kpn {W U U' : World} {p b c : Nat} {x y : Value} (h : SB W U p b c x y) (q : KpN U U' p) : SB W U' p b c x y :=
  ⟨(q.blk (lt_of_heap h.rb) (by have := h.lt; omega) (IntsB.of h.rb (by decide))).trans h.rb, (q.blk (lt_of_heap h.tb) (by have := h.lt; omega) (IntsB.of h.tb (by decide))).trans h.tb, h.lt⟩
theorem SB.gr {W U U' : World} {p b c : Nat} {x y : Value} (h : SB W U p b c x y) (q : Gr U U') : SB W U' p b c x y := h.kpn (Gr.n p q)
theorem SB.cok {W U : World} {p b c : Nat} {x y : Value} (h : SB W U p b c x y) : c ≠ p ∧ c ≠ 0 ∧ ¬ IntsB p U c := ⟨by have := h.lt; omega, by have := h.lt; omega, IntsB.of h.tb (by decide)⟩
theorem SB.bok {W U : World} {p b c : Nat} {x y : Value} (h : SB W U p b c x y) : b ≠ p ∧ b ≠ 0 ∧ ¬ IntsB p U b := ⟨by have := h.lt; omega, by have := h.lt; omega, IntsB.of h.rb (by decide)⟩
def KX (X w : World) (p c : Nat) : Prop := Keeps X w (fun z => z = p ∨ z = c ∨ IntsB p X z)
theorem KX.refl (X : World) (p c : Nat) : KX X X p c := Keeps.refl _ _
theorem KX.tr {X w U : World} {p c : Nat} (h : KX X w p c) (k : KpN w U p) : KX X U p c := Keeps.trans h k fun j hj e => by
  refine Classical.byContradiction fun hS => ?_
  refine e.elim (fun e => hS (.inl e)) fun e => hS (.inr (.inr ?_))
  exact Classical.byContradiction fun hi => IntsB.same (h.block j hj hS) hi e
theorem LAt.low {α : Type} {W V U : World} {t s : Nat} {c : α → List Value} {l : List α} {vo : Option Addr} {vc : Nat} (h : LAt V U t s c l vo vc) (hs : W.heap.size ≤ V.heap.size) : LAt W U t s c l vo vc := ⟨h.own, fun g e => Nat.le_trans hs (h.new g e)⟩
theorem info59 : (Tryz.prog.info? 70).map (fun i => (i.zero, i.size, i.bytes)) = some (some (.agg #[.string ⟨#[]⟩, .string ⟨#[]⟩]), 2, 32) := by kernel_rfl
theorem src59 (w : World) (y0 y1 : ByteArray) : Src Tryz.prog 2 25 (.slice (some ⟨w.heap.size, 0, none⟩) 1 1) 1 [.string y0, .string y1] (w.alloc (.cells #[.string y0, .string y1] 70)) := by
  refine Src.ofSlice (w := w.alloc (.cells #[.string y0, .string y1] 70)) Tryz.underlying25 ⟨w.heap.size, 0, none⟩ 1 1 [.string y0, .string y1] (by simp) (fun j v hj => ?_) (fun v hv => by simp at hv; rcases hv with rfl | rfl <;> rfl)
  have hb' := heap_alloc_new w (.cells #[.string y0, .string y1] 70)
  have e : (⟨w.heap.size, 0, none⟩ : Addr).add j = ⟨w.heap.size, j, none⟩ := by cases j <;> simp [Addr.add]
  rw [e]
  simp only [World.cell?, hb']
  simpa using hj
theorem note_one {X U : World} {x : ByteArray × ByteArray} {y0 y1 : ByteArray} (hs : X.heap.size ≤ U.heap.size) (h0 : y0 = x.1) (h1 : y1 = x.2) : LAt X (U.alloc (.cells #[.string y0, .string y1] 70)) 70 2 ncel [x] (some ⟨U.heap.size, 0, none⟩) 1 := by
  refine ⟨⟨rfl, .inr ⟨U.heap.size, 1, _, rfl, Nat.zero_le _, heap_alloc_new U _, Nat.le_refl _, by decide, rfl, by rw [h0, h1]; rfl⟩⟩, fun g e => ?_⟩
  have : U.heap.size = g := by simpa [Value.ownBlock] using e
  omega
theorem note_bind {α : Type} {T : List UInt8} {a : Nat} {g : List Nat} {x : ByteArray × ByteArray} {s1 : Ps} {f : List (ByteArray × ByteArray) → Pr α} (h : noteP T (a, g) = .ok (x, s1)) : ((comP T (noteP T) D0 [x]).bind f) s1 = ((manyP T (noteP T)).bind f) (a, g) := by
  have e : manyP T (noteP T) (a, g) = comP T (noteP T) D0 [x] s1 := Pr.bind_ok h
  unfold Pr.bind
  rw [e]
theorem note_lt {T : List UInt8} {a : Nat} {g : List Nat} {x : ByteArray × ByteArray} {s1 : Ps} (h : noteP T (a, g) = .ok (x, s1)) : a < s1.1 := by
  unfold noteP at h
  obtain ⟨k, s2, e1, e2⟩ := Pr.inv h
  have h2 : Fw ((quotedP T).bind fun t => Pr.pure (k, t)) := (fw_quoted T).bind fun _ => fw_pure _
  have h3 := (h2 _ _ _ e2).1
  unfold quotedP at e1
  obtain ⟨u, s3, e3, e4⟩ := Pr.inv e1
  have h4 := (fw_quo T _ _ _ _ _ e4).1
  unfold mustP at e3
  obtain ⟨b, s4, e5, e6⟩ := Pr.inv e3
  rcases takes_cases T 34 a g with ⟨a1, hl, hr⟩ | ⟨a1, hl, hr⟩
  · rw [hr] at e5
    cases e5
    cases e6
    have h4' : a1 ≤ s2.1 := h4
    have h3' : s2.1 ≤ s1.1 := h3
    omega
  rw [hr] at e5
  cases e5
  cases e6
def SV (p : Nat) (W w' : World) (x : List FT × List (ByteArray × ByteArray)) (v : Value) : Prop := ∃ fo fc no nc, v = .agg #[.slice fo x.1.length fc, .slice no x.2.length nc] ∧ x.1.length ≤ fc ∧ RowAt (NB p W w') w' (D0 + 1) fo x.1 ∧ LAt W w' 70 2 ncel x.2 no nc
theorem schema15 (p : Nat) (s : ByteArray) : PnC p s D0 23 #[.pointer (some ⟨p, 0, none⟩)] (schP s.data.toList) (SV p) := by
  intro W a0 g0 hN hd
  obtain ⟨R, hRes⟩ : ∃ R, R = schP s.data.toList (a0, g0) := ⟨_, rfl⟩
  rw [← hRes]
  have HRes := hidP hRes
  obtain ⟨V0, hV0⟩ : ∃ V0, (W.alloc (.cells #[.slice none 0 0, .slice none 0 0] 27)).alloc (.cells #[.slice none 0 0, .slice none 0 0] 27) = V0 := ⟨_, rfl⟩
  have g1' : Gr W (W.alloc (.cells #[.slice none 0 0, .slice none 0 0] 27)) := gr_alloc W _
  have g2' : Gr (W.alloc (.cells #[.slice none 0 0, .slice none 0 0] 27)) V0 := by rw [← hV0]; exact gr_alloc _ _
  have g0' : Gr W V0 := g1'.trans g2' (fun _ _ h => h)
  have hs1 : (W.alloc (.cells #[.slice none 0 0, .slice none 0 0] 27)).heap.size = W.heap.size + 1 := by simp
  have HT0 : Hid (SB W V0 p W.heap.size (W.heap.size + 1) (.slice none 0 0) (.slice none 0 0)) := ⟨(g2'.block _ (by omega) id).trans (heap_alloc_new W _), by have := heap_alloc_new (W.alloc (.cells #[.slice none 0 0, .slice none 0 0] 27)) (.cells #[.slice none 0 0, .slice none 0 0] 27); rw [hs1, hV0] at this; exact this, Nat.le_refl _, by omega, hN.lt⟩
  have HR0 := hidP (hN.gr g0')
  have HG0 : Hid (KpN W V0 p) := Gr.n p g0'
  have HNe : Hid (p < W.heap.size) := hN.lt
  have Hsz := hidP hN.len
  have HV := hidP hV0
  have HPk := hidP (peek_n p s D0)
  have HF := hidP (fields_any p s)
  have HNt := hidP ((note30 p s).n (fw_note _) D0)
  have HM124 := hidP ((takes_any p s 124 (by decide)).n (fw_takes _ _) D0)
  have HM44 := hidP ((takes_any p s 44 (by decide)).n (fw_takes _ _) D0)
  obtain ⟨b, hb⟩ : ∃ b, b = W.heap.size := ⟨_, rfl⟩
  have hl0 : a0 ≤ a0 := Nat.le_refl _
  clear hRes hN g0' g1' g2' hs1 hV0 hd
  go_enter Tryz.func23, Tryz.ntmps23
  go_wp2_with (go_at_call 50; refine Hid.out ?_)
  unfold Hid
  rw [HV.out, ← hb]
  rw [← hb] at HT0
  have HB := hidP hb
  clear HV hb
  have hq := HPk.out _ _ _ HR0.out (by have := Hsz.out; show _ < 65537; omega)
  rcases hr : peekP s.data.toList (a0, g0) with o | q
  · exact absurd hr (by unfold peekP; simp)
  obtain ⟨x1, a1, g1⟩ := q
  rw [hr] at hq
  refine Calls.mono hq ?_
  rintro e' U1 ⟨hk, v, rfl, rfl, hR⟩
  have Hr1 := hidP hr
  have hl1 : a0 ≤ a1 := Nat.le_trans hl0 (fw_peek _ _ _ _ hr).1
  have HT1 := hidP (HT0.out.kpn hk)
  have HG1 := hidP (HG0.out.tr hk)
  have HR1 := hidP hR
  have hcl : ∃ no' : Nat, U1.cell? ⟨p, 0, none⟩ = some (.string s) ∧ U1.cell? ⟨p, 1, none⟩ = some (.int .i64 (a1 : Int)) := by obtain ⟨vo, vc, h⟩ := hR; exact ⟨0, h.tat.cells⟩
  obtain ⟨_, d0, d1⟩ := hcl
  have HSP : Hid (R = (if x1 ≠ 124 ∧ a1 < s.data.toList.length then (manyP s.data.toList (fieldP s.data.toList D0)).bind (notesP s.data.toList) else notesP s.data.toList []) (a1, g1)) := by show R = _; rw [HRes.out, schP, Pr.bind_ok hr]; dsimp only; split <;> rfl
  have hTl : s.data.toList.length = s.size := by simp
  rw [hTl] at HSP
  clear hk hq hr hR HT0 HG0 HR0 HRes hTl
  have HGd : Hid (Gr U1 U1.drew) := gr_drewP
  by_cases h124 : x1 = 124
  · have e124 : ((x1.toNat : Int) != 124) = false := by rw [h124]; rfl
    have HS : Hid (R = notesP s.data.toList [] (a1, g1)) := by show R = _; rw [HSP.out, if_neg (fun h => h.1 h124)]
    clear h124 HSP
    go_wp2_with fail
    go_region
    clear d0 d1
    have HRX := hidP (HR1.out.gr HGd.out)
    have HGX := hidP (HG1.out.tr (Gr.n p HGd.out))
    have HTX := hidP (HT1.out.gr HGd.out)
    generalize U1.drew = X at HRX HGX HTX HGd ⊢
    obtain ⟨l, fo, fc, aX, gX, hX⟩ : ∃ (l : List FT) (fo : Option Addr) (fc aX : Nat) (gX : List Nat), l = [] ∧ fo = none ∧ fc = 0 ∧ aX = a1 ∧ gX = g1 := ⟨[], none, 0, a1, g1, rfl, rfl, rfl, rfl, rfl⟩
    obtain ⟨rfl, rfl, rfl, rfl, rfl⟩ := hX
    have HKr : Hid (([] : List FT).length ≤ 0 ∧ RowAt (NB p X X) X (D0 + 1) none ([] : List FT)) := ⟨Nat.le_refl _, by simp [big], fun h => absurd rfl h⟩
    have HLo : Hid (b + 1 < X.heap.size ∧ p < X.heap.size) := ⟨lt_of_heap HTX.out.tb, HRX.out.lt⟩
    have HLw : Hid (W.heap.size ≤ X.heap.size) := HGX.out.size
    have HLX : Hid (X.heap.size ≤ X.heap.size) := Nat.le_refl _
    have HLW := HLw
    have HLp : Hid (p < X.heap.size) := HRX.out.lt
    have hlX : a0 ≤ aX := hl1
    obtain ⟨l, hl⟩ : ∃ l : List FT, l = [] := ⟨_, rfl⟩
    obtain ⟨fo, hfo⟩ : ∃ fo : Option Addr, fo = none := ⟨_, rfl⟩
    obtain ⟨fc, hfc⟩ : ∃ fc : Nat, fc = 0 := ⟨_, rfl⟩
    have hll : (0 : Nat) = l.length := by rw [hl]; rfl
    rw [← hl, ← hfo, ← hfc] at HKr
    rw [← hl] at HS
    have HTX : Hid (SB W X p b (b + 1) (.slice fo l.length fc) (.slice none 0 0)) := by rw [← hll, hfo, hfc]; exact HTX
    clear hl hfo hfc hll
    go_wp2_with (go_at_call 52; refine Hid.out ?_)
    unfold Hid
    (try clear w0 w1)
    have hq := HM124.out _ _ _ HRX.out (by have := Hsz.out; show _ < 65537; omega)
    rcases takes_cases s.data.toList 124 aX gX with ⟨aT, hlT, hr⟩ | ⟨aT, hlT, hr⟩
    · rw [hr] at hq
      refine Calls.mono hq ?_
      rintro e' UT ⟨hk, v, rfl, rfl, hR⟩
      have HS1 : Hid (R = ((manyP s.data.toList (noteP s.data.toList)).bind fun ns => Pr.pure (l, ns)) (aT, gX)) := by show R = _; rw [HS.out]; exact Pr.bind_ok hr
      have HTT := hidP (HTX.out.kpn hk)
      have HGT := hidP (HGX.out.tr hk)
      have HRT := hidP hR
      have HXT := hidP ((KX.refl X p (b + 1)).tr hk)
      have hlT' : a0 ≤ aT := by omega
      clear hk hq hr hR
      go_wp2_with (go_at_call 53; refine Hid.out ?_)
      unfold Hid
      have hq := HNt.out _ _ _ HRT.out (by have := Hsz.out; show _ < 65537; omega)
      rcases hr : noteP s.data.toList (aT, gX) with o | q
      · rw [hr] at hq
        refine Calls.mono hq ?_
        rintro e' U ⟨hk, rfl⟩
        have HGe := hidP (HGT.out.tr hk)
        have HE : Hid (R = .error o) := by show R = _; rw [HS1.out]; exact Pr.bind_err (Pr.bind_err hr)
        clear hk hq hr
        go_wp2_with fail
        exact ⟨rfl, PnQ.err HGe.out HE.out⟩
      obtain ⟨xN, aN, gN⟩ := q
      rw [hr] at hq
      refine Calls.mono hq ?_
      rintro e' UN ⟨hk, v, rfl, rfl, hR⟩
      have HS2 : Hid (((comP s.data.toList (noteP s.data.toList) D0 [xN]).bind fun ns => Pr.pure (l, ns)) (aN, gN) = R) := by show _ = R; rw [HS1.out, note_bind hr]
      have hlN : aT < aN := note_lt hr
      obtain ⟨y0, hy0⟩ : ∃ y, y = xN.1 := ⟨_, rfl⟩
      obtain ⟨y1, hy1⟩ : ∃ y, y = xN.2 := ⟨_, rfl⟩
      rw [← hy0, ← hy1]
      have hT := (HTT.out.kpn hk).gr (gr_alloc UN (.cells #[.string y0, .string y1] 70))
      have gA := gr_alloc UN (.cells #[.string y0, .string y1] 70)
      have hA : LAt X (UN.alloc (.cells #[.string y0, .string y1] 70)) 70 2 ncel [xN] (some ⟨UN.heap.size, 0, none⟩) 1 := note_one (Nat.le_trans HXT.out.size hk.size) hy0 hy1
      have w0 := frz hT.tb 1
      have w1 : (UN.alloc (.cells #[.string y0, .string y1] 70)).cell? ⟨b + 1, 1, none⟩ = some (.slice none 0 0) := by simp [World.cell?, hT.tb]
      have kS : Keeps (UN.alloc (.cells #[.string y0, .string y1] 70)) ((UN.alloc (.cells #[.string y0, .string y1] 70)).setCell ⟨b + 1, 1, none⟩ (.slice (some ⟨UN.heap.size, 0, none⟩) 1 1)) (fun z => z = b + 1) := (Keeps.refl _ (fun z => z = b + 1)).setCell (p := ⟨b + 1, 1, none⟩) (fun _ => rfl) _
      have HTN : Hid (SB W ((UN.alloc (.cells #[.string y0, .string y1] 70)).setCell ⟨b + 1, 1, none⟩ (.slice (some ⟨UN.heap.size, 0, none⟩) 1 1)) p b (b + 1) (.slice fo l.length fc) (.slice (some ⟨UN.heap.size, 0, none⟩) 1 1)) := ⟨(set_other _ (by omega)).trans hT.rb, heap_setCell_same _ (b + 1) 1 _ _ _ hT.tb, hT.lt⟩
      have HGN : Hid (KpN W ((UN.alloc (.cells #[.string y0, .string y1] 70)).setCell ⟨b + 1, 1, none⟩ (.slice (some ⟨UN.heap.size, 0, none⟩) 1 1)) p) := ((HGT.out.tr hk).tr (Gr.n p gA)).trans kS fun z hz h => by have := hT.lt; omega
      have HRN := hidP ((hR.gr gA).kept kS fun z h => by rw [h]; exact hT.cok)
      have HXN : Hid (KX X ((UN.alloc (.cells #[.string y0, .string y1] 70)).setCell ⟨b + 1, 1, none⟩ (.slice (some ⟨UN.heap.size, 0, none⟩) 1 1)) p (b + 1)) := ((HXT.out.tr hk).tr (Gr.n p gA)).trans kS fun z hz h => .inr (.inl h)
      have HAN : Hid (LAt X ((UN.alloc (.cells #[.string y0, .string y1] 70)).setCell ⟨b + 1, 1, none⟩ (.slice (some ⟨UN.heap.size, 0, none⟩) 1 1)) 70 2 ncel [xN] (some ⟨UN.heap.size, 0, none⟩) 1) := hA.blk kS fun z h hz hS => by have := HLo.out; have := HLX.out; omega
      clear hk hq hr hR hT gA hA kS hy0 hy1 HTT HGT HRT HXT HS1
      have HVN : Hid (∃ V, V = ((UN.alloc (.cells #[.string y0, .string y1] 70)).setCell ⟨b + 1, 1, none⟩ (.slice (some ⟨UN.heap.size, 0, none⟩) 1 1))) := ⟨_, rfl⟩
      go_wp2_with fail
      clear w0 w1 HVN
      generalize ((UN.alloc (.cells #[.string y0, .string y1] 70)).setCell ⟨b + 1, 1, none⟩ (.slice (some ⟨UN.heap.size, 0, none⟩) 1 1)) = UL at HTN HGN HRN HXN HAN ⊢
      have hpN := HRN.out.pos
      go_loopw [] (fun wr => ∃ (n a : Nat) (g : List Nat) (acc : List (ByteArray × ByteArray)) (no : Option Addr) (nc : Nat), a ≤ s.size ∧ a0 ≤ a ∧ s.size - a < n ∧ acc.length ≤ a ∧ Hid (SB W wr p b (b + 1) (.slice fo l.length fc) (.slice no acc.length nc)) ∧ Hid (LAt X wr 70 2 ncel acc no nc) ∧ Hid (NA wr p s a g) ∧ Hid (KpN W wr p) ∧ Hid (KX X wr p (b + 1)) ∧ Hid (((comP s.data.toList (noteP s.data.toList) n acc).bind fun ns => Pr.pure (l, ns)) (a, g) = R)) (fun wr => s.size - atOf wr p)
      case atStart => exact ⟨D0, aN, gN, [xN], _, 1, hpN, by omega, by have := Hsz.out; show _ < 65537; omega, by simp; omega, HTN.out, HAN.out, HRN.out, HGN.out, HXN.out, HS2.out⟩
      case round =>
        clear HTN HAN HRN HGN HXN HS2 hpN hlN hlT hlT'
        obtain ⟨n, a, g, acc, no, nc, hp1, ha0, hn, hal, HT, HA, HR, HG, HX, HS⟩ := hrel
        obtain ⟨n, rfl⟩ : ∃ m, n = m + 1 := ⟨n - 1, by omega⟩
        have Hm := hidP HR.out.at
        have hsz := Hsz.out
        have hq := HM44.out wr a g HR.out (by have := Hsz.out; show _ < 65537; omega)
        rcases takes_cases s.data.toList 44 a g with ⟨a2, hlt, hr⟩ | ⟨a2, hle, hr⟩
        · rw [hr] at hq
          have HQ := hidP hq
          have Hr := hidP hr
          clear hq hr
          go_wp2_with (go_at_call 52; refine Calls.mono HQ.out ?_; rintro e' U1 ⟨hk, v, rfl, rfl, hR⟩; have HG1 := hidP (HG.out.tr hk); have HR1 := hidP hR; have HT1 := hidP (HT.out.kpn hk); have HA1 := hidP (HA.out.kpn (by decide) hk HLp.out); have HX1 := hidP (HX.out.tr hk); clear hk hR)
          have hp2 := HR1.out.pos
          clear HQ HT HA HR HG HX
          have hq := HNt.out U1.drew a2 g (HR1.out.gr gr_drewP) (by have := Hsz.out; show _ < 65537; omega)
          rcases hi : noteP s.data.toList (a2, g) with o | q
          · rw [hi] at hq
            have HE : Hid (R = .error o) := by show R = _; rw [← HS.out]; exact Pr.bind_err (com_err Hr.out hi)
            have HQ := hidP hq
            clear hi hq
            have HC : Hid (∀ w, Gr U1 w → w.cell? ⟨b + 1, 1, none⟩ = some (.slice no acc.length nc)) := fun w g => by have := (HT1.out.gr g).tb; simp [World.cell?, this]
            refine wp_region_held_drew (S := fun w' => True) (by kernel_rfl) (trivial) (fun hHeld => ?_)
            refine tk (i := 0) (v := ?v0a11) rfl (Or.inl ⟨by rfl, ?y0a11⟩) ?r0a11
            case y0a11 => (intro w hSw; go_simp; (try with_reducible rfl))
            try simp only [Act.put]; try simp only [lA]; try simp only [lB]; try simp only [lC]
            refine tk (i := 2) (v := ?v2a12) rfl (Or.inl ⟨by rfl, ?y2a12⟩) ?r2a12
            case y2a12 => (intro w hSw; go_simp; (try with_reducible rfl))
            try simp only [Act.put]; try simp only [lA]; try simp only [lB]; try simp only [lC]
            refine rd2 1 3 rfl rfl (fun Kc hK => ?_) fun Kc hK => ?_
            · have c1 := HC.out U1.drew gr_drewP
              go_simp
              refine hK.out _ _ trivial (fun hHeld => ?_)
              clear hK Kc
              try simp only [Act.put]; try simp only [lA]; try simp only [lB]; try simp only [lC]
              refine rd1 3 rfl fun Kc hK => ?_
              go_simp
              go_at_call 53
              refine Calls.mono HQ.out ?_
              rintro e' U2 ⟨hk, rfl⟩
              have HGe := hidP ((HG1.out.tr (Gr.n p gr_drewP)).tr hk)
              clear hk
              (try go_wp2_with fail)
              exact ⟨rfl, PnQ.err HGe.out HE.out⟩
            go_simp
            go_at_call 53
            refine Calls.mono HQ.out ?_
            rintro e' U2 ⟨hk, rfl⟩
            have HGe := hidP ((HG1.out.tr (Gr.n p gr_drewP)).tr hk)
            clear hk
            (try go_wp2_with fail)
            exact ⟨rfl, PnQ.err HGe.out HE.out⟩
          obtain ⟨x, a3, g3⟩ := q
          rw [hi] at hq
          have HS1 : Hid (((comP s.data.toList (noteP s.data.toList) n (acc ++ [x])).bind fun ns => Pr.pure (l, ns)) (a3, g3) = R) := by show _ = R; rw [← HS.out]; unfold Pr.bind; rw [com_ok Hr.out hi]
          have h23 : a2 < a3 := note_lt hi
          clear hi HS Hr
          obtain ⟨y0, hy0⟩ : ∃ y, y = x.1 := ⟨_, rfl⟩
          obtain ⟨y1, hy1⟩ : ∃ y, y = x.2 := ⟨_, rfl⟩
          have Hy : Hid (y0 = x.1 ∧ y1 = x.2) := ⟨hy0, hy1⟩
          have HQ : Hid (Calls Tryz.prog 53 #[.pointer (some ⟨p, 0, none⟩)] U1.drew fun e w' => KpN U1.drew w' p ∧ e = .returned (.agg #[.string y0, .string y1]) ∧ NA w' p s a3 g3) := Calls.mono hq fun e w' h => by obtain ⟨hk, v, rfl, rfl, hR⟩ := h; exact ⟨hk, by rw [hy0, hy1], hR⟩
          clear hy0 hy1 hq
          have HC : Hid (∀ w, KpN U1 w p → w.cell? ⟨b + 1, 1, none⟩ = some (.slice no acc.length nc)) := fun w g => by have := (HT1.out.kpn g).tb; simp [World.cell?, this]
          refine wp_region_held_drew (S := fun w' => True) (by kernel_rfl) (trivial) (fun hHeld => ?_)
          refine tk (i := 0) (v := ?v0b11) rfl (Or.inl ⟨by rfl, ?y0b11⟩) ?r0b11
          case y0b11 => (intro w hSw; go_simp; (try with_reducible rfl))
          try simp only [Act.put]; try simp only [lA]; try simp only [lB]; try simp only [lC]
          refine tk (i := 2) (v := ?v2b12) rfl (Or.inl ⟨by rfl, ?y2b12⟩) ?r2b12
          case y2b12 => (intro w hSw; go_simp; (try with_reducible rfl))
          try simp only [Act.put]; try simp only [lA]; try simp only [lB]; try simp only [lC]
          refine rd2 1 3 rfl rfl (fun Kc hK => ?_) fun Kc hK => ?_
          · have c1 := HC.out U1.drew (Gr.n p gr_drewP)
            go_simp
            clear c1
            refine hK.out _ _ trivial (fun hHeld => ?_)
            clear hK Kc
            try simp only [Act.put]; try simp only [lA]; try simp only [lB]; try simp only [lC]
            refine rd1 3 rfl fun Kc hK => ?_
            go_simp
            go_at_call 53
            refine Calls.mono HQ.out ?_
            rintro e' U2 ⟨hk, rfl, hR⟩
            have HK2 : Hid (KpN U1 U2 p) := KpN.tr (Gr.n p gr_drewP) hk
            have HR2 := hidP hR
            clear hk hR
            go_wp2_with fail
            refine hK.out _ _ trivial (fun hHeld => ?_)
            clear hK Kc
            try simp only [Act.put]; try simp only [lA]; try simp only [lB]; try simp only [lC]
            refine rd1 4 rfl fun Kc hK => ?_
            go_simp
            refine hK.out _ _ trivial (fun hHeld => ?_)
            clear hK Kc
            try simp only [Act.put]; try simp only [lA]; try simp only [lB]; try simp only [lC]
            refine rd1 5 rfl fun Kc hK => ?_
            have HA2 := hidP (HA1.out.kpn (by decide) HK2.out HLp.out)
            refine step_append_anyN _ rfl (.tmp 35) (.tmp 38) 25 25 rfl 70 (.agg #[.string ⟨#[]⟩, .string ⟨#[]⟩]) 2 32 Tryz.underlying25 info59 rfl _ acc.length (acc.flatMap ncel) rfl (HA2.out.own.alloc _) _ 1 [.string y0, .string y1] rfl (src59 U2 y0 y1) (by omega) (by omega) ?_
            intro v' w1 hown hgrow hblk
            obtain ⟨no', nc', rfl⟩ := own_formK hown
            have gA : Gr U2 (U2.alloc (.cells #[.string y0, .string y1] 70)) := gr_alloc U2 _
            have kA : Keeps U2 w1 (fun z => (Value.slice no acc.length nc).ownBlock = some z) := (gA.mono fun _ _ h => h.elim).trans (Keeps.ofGrown hgrow) (fun _ _ h => h)
            have hnew : ∀ z, (Value.slice no acc.length nc).ownBlock = some z → X.heap.size ≤ z := fun z h => HA2.out.new z h
            have hT2 := HT1.out.kpn HK2.out
            have hrb := (kA.block b (lt_of_heap hT2.rb) fun h => by have := hnew b h; have := HLo.out; have := HLX.out; omega).trans hT2.rb
            have htb := (kA.block (b + 1) (lt_of_heap hT2.tb) fun h => by have := hnew _ h; have := HLo.out; have := HLX.out; omega).trans hT2.tb
            have hR3 := HR2.out.kept kA fun z h => by obtain ⟨cs, hb⟩ := own_blk HA2.out.own h; have h1 := hnew z h; have h2 := HLp.out; exact ⟨by omega, by omega, IntsB.of hb (by decide)⟩
            have e1 : [x].flatMap ncel = [.string y0, .string y1] := by rw [Hy.out.1, Hy.out.2]; rfl
            have hA3 : LAt X w1 70 2 ncel (acc ++ [x]) no' nc' := ⟨by rw [List.length_append, List.flatMap_append, e1]; exact hown, fun q h => by rw [List.length_append] at h; exact hblk.elim (fun r => hnew q (r ▸ h)) (fun r => by have := r q h; have := gA.size; have := HK2.out.size; have := HX1.out.size; omega)⟩
            have hG3 : KpN W w1 p := (HG1.out.tr HK2.out).trans kA fun j hj h => by have := hnew j h; have := HLW.out; omega
            have hX3 : KX X w1 p (b + 1) := (HX1.out.tr HK2.out).trans kA fun j hj h => by have := hnew j h; omega
            have kS : Keeps w1 (w1.setCell ⟨b + 1, 1, none⟩ (.slice no' (acc.length + 1) nc')) (fun z => z = b + 1) := (Keeps.refl w1 (fun z => z = b + 1)).setCell (p := ⟨b + 1, 1, none⟩) (fun _ => rfl) _
            have hT3 : SB W w1 p b (b + 1) (.slice fo l.length fc) (.slice no acc.length nc) := ⟨hrb, htb, hT2.lt⟩
            have HT3 : Hid (SB W (w1.setCell ⟨b + 1, 1, none⟩ (.slice no' (acc.length + 1) nc')) p b (b + 1) (.slice fo l.length fc) (.slice no' (acc ++ [x]).length nc')) := ⟨(set_other _ (by omega)).trans hrb, by have := heap_setCell_same _ (b + 1) 1 _ _ (.slice no' (acc.length + 1) nc') htb; rw [List.length_append]; exact this, hT2.lt⟩
            have HR3 := hidP (hR3.kept kS fun z h => by rw [h]; exact hT3.cok)
            have HA3 := hidP (hA3.blk kS fun z h hz hS => by have := HLo.out; have := HLX.out; omega)
            have HG3 : Hid (KpN W (w1.setCell ⟨b + 1, 1, none⟩ (.slice no' (acc.length + 1) nc')) p) := hG3.trans kS fun z hz h => by have := hT2.lt; omega
            have HX3 : Hid (KX X (w1.setCell ⟨b + 1, 1, none⟩ (.slice no' (acc.length + 1) nc')) p (b + 1)) := hX3.trans kS fun z hz h => .inr (.inl h)
            have HM := hidP HR3.out.at
            have hp3 := HR3.out.pos
            have z1 := frz htb 1
            have q1 : w1.cell? ⟨b + 1, 1, none⟩ = some (.slice no acc.length nc) := by simp [World.cell?, htb]
            clear e1 hown hgrow hblk gA kA hnew hT2 hrb hR3 hA3 hG3 hX3 kS hT3 htb HA2
            refine hK.out _ _ trivial (fun hHeld => ?_)
            clear hK Kc
            try simp only [Act.put]; try simp only [lA]; try simp only [lB]; try simp only [lC]
            refine tk (i := 6) (v := ?v6c1x11) rfl (Or.inl ⟨by rfl, ?y6c1x11⟩) ?r6c1x11
            case y6c1x11 => (intro w hSw; go_simp; (try with_reducible rfl))
            try simp only [Act.put]; try simp only [lA]; try simp only [lB]; try simp only [lC]
            refine rd1 7 rfl fun Kc hK => ?_
            go_simp
            refine hK.out _ _ trivial (fun hHeld => ?_)
            clear hK Kc
            try simp only [Act.put]; try simp only [lA]; try simp only [lB]; try simp only [lC]
            refine wpAnyH_done (by kernel_rfl) ?_ _
            clear z1 q1 hHeld
            go_wp2_with fail
            go_roundw
            case rel => exact ⟨n, a3, g3, acc ++ [x], no', nc', hp3, by omega, by omega, by simp; omega, HT3.out, HA3.out, HR3.out, HG3.out, HX3.out, HS1.out⟩
            case measure =>
              have h1 := HM.out
              have h2 := Hm.out
              rw [h2]
              refine Nat.lt_of_le_of_lt (Nat.le_of_eq (congrArg (s.size - ·) h1)) ?_
              omega
          go_simp
          go_at_call 53
          refine Calls.mono HQ.out ?_
          rintro e' U2 ⟨hk, rfl, hR⟩
          have HK2 : Hid (KpN U1 U2 p) := KpN.tr (Gr.n p gr_drewP) hk
          have HR2 := hidP hR
          clear hk hR
          go_wp2_with fail
          refine hK.out _ _ trivial (fun hHeld => ?_)
          clear hK Kc
          try simp only [Act.put]; try simp only [lA]; try simp only [lB]; try simp only [lC]
          refine rd2 1 4 rfl rfl (fun Kc hK => ?_) fun Kc hK => ?_
          · have c1 := HC.out U2 (HK2.out)
            go_simp
            clear c1
            refine hK.out _ _ trivial (fun hHeld => ?_)
            clear hK Kc
            try simp only [Act.put]; try simp only [lA]; try simp only [lB]; try simp only [lC]
            refine rd1 4 rfl fun Kc hK => ?_
            go_simp
            refine hK.out _ _ trivial (fun hHeld => ?_)
            clear hK Kc
            try simp only [Act.put]; try simp only [lA]; try simp only [lB]; try simp only [lC]
            refine rd1 5 rfl fun Kc hK => ?_
            have HA2 := hidP (HA1.out.kpn (by decide) HK2.out HLp.out)
            refine step_append_anyN _ rfl (.tmp 35) (.tmp 38) 25 25 rfl 70 (.agg #[.string ⟨#[]⟩, .string ⟨#[]⟩]) 2 32 Tryz.underlying25 info59 rfl _ acc.length (acc.flatMap ncel) rfl (HA2.out.own.alloc _) _ 1 [.string y0, .string y1] rfl (src59 U2 y0 y1) (by omega) (by omega) ?_
            intro v' w1 hown hgrow hblk
            obtain ⟨no', nc', rfl⟩ := own_formK hown
            have gA : Gr U2 (U2.alloc (.cells #[.string y0, .string y1] 70)) := gr_alloc U2 _
            have kA : Keeps U2 w1 (fun z => (Value.slice no acc.length nc).ownBlock = some z) := (gA.mono fun _ _ h => h.elim).trans (Keeps.ofGrown hgrow) (fun _ _ h => h)
            have hnew : ∀ z, (Value.slice no acc.length nc).ownBlock = some z → X.heap.size ≤ z := fun z h => HA2.out.new z h
            have hT2 := HT1.out.kpn HK2.out
            have hrb := (kA.block b (lt_of_heap hT2.rb) fun h => by have := hnew b h; have := HLo.out; have := HLX.out; omega).trans hT2.rb
            have htb := (kA.block (b + 1) (lt_of_heap hT2.tb) fun h => by have := hnew _ h; have := HLo.out; have := HLX.out; omega).trans hT2.tb
            have hR3 := HR2.out.kept kA fun z h => by obtain ⟨cs, hb⟩ := own_blk HA2.out.own h; have h1 := hnew z h; have h2 := HLp.out; exact ⟨by omega, by omega, IntsB.of hb (by decide)⟩
            have e1 : [x].flatMap ncel = [.string y0, .string y1] := by rw [Hy.out.1, Hy.out.2]; rfl
            have hA3 : LAt X w1 70 2 ncel (acc ++ [x]) no' nc' := ⟨by rw [List.length_append, List.flatMap_append, e1]; exact hown, fun q h => by rw [List.length_append] at h; exact hblk.elim (fun r => hnew q (r ▸ h)) (fun r => by have := r q h; have := gA.size; have := HK2.out.size; have := HX1.out.size; omega)⟩
            have hG3 : KpN W w1 p := (HG1.out.tr HK2.out).trans kA fun j hj h => by have := hnew j h; have := HLW.out; omega
            have hX3 : KX X w1 p (b + 1) := (HX1.out.tr HK2.out).trans kA fun j hj h => by have := hnew j h; omega
            have kS : Keeps w1 (w1.setCell ⟨b + 1, 1, none⟩ (.slice no' (acc.length + 1) nc')) (fun z => z = b + 1) := (Keeps.refl w1 (fun z => z = b + 1)).setCell (p := ⟨b + 1, 1, none⟩) (fun _ => rfl) _
            have hT3 : SB W w1 p b (b + 1) (.slice fo l.length fc) (.slice no acc.length nc) := ⟨hrb, htb, hT2.lt⟩
            have HT3 : Hid (SB W (w1.setCell ⟨b + 1, 1, none⟩ (.slice no' (acc.length + 1) nc')) p b (b + 1) (.slice fo l.length fc) (.slice no' (acc ++ [x]).length nc')) := ⟨(set_other _ (by omega)).trans hrb, by have := heap_setCell_same _ (b + 1) 1 _ _ (.slice no' (acc.length + 1) nc') htb; rw [List.length_append]; exact this, hT2.lt⟩
            have HR3 := hidP (hR3.kept kS fun z h => by rw [h]; exact hT3.cok)
            have HA3 := hidP (hA3.blk kS fun z h hz hS => by have := HLo.out; have := HLX.out; omega)
            have HG3 : Hid (KpN W (w1.setCell ⟨b + 1, 1, none⟩ (.slice no' (acc.length + 1) nc')) p) := hG3.trans kS fun z hz h => by have := hT2.lt; omega
            have HX3 : Hid (KX X (w1.setCell ⟨b + 1, 1, none⟩ (.slice no' (acc.length + 1) nc')) p (b + 1)) := hX3.trans kS fun z hz h => .inr (.inl h)
            have HM := hidP HR3.out.at
            have hp3 := HR3.out.pos
            have z1 := frz htb 1
            have q1 : w1.cell? ⟨b + 1, 1, none⟩ = some (.slice no acc.length nc) := by simp [World.cell?, htb]
            clear e1 hown hgrow hblk gA kA hnew hT2 hrb hR3 hA3 hG3 hX3 kS hT3 htb HA2
            refine hK.out _ _ trivial (fun hHeld => ?_)
            clear hK Kc
            try simp only [Act.put]; try simp only [lA]; try simp only [lB]; try simp only [lC]
            refine tk (i := 6) (v := ?v6c1x21) rfl (Or.inl ⟨by rfl, ?y6c1x21⟩) ?r6c1x21
            case y6c1x21 => (intro w hSw; go_simp; (try with_reducible rfl))
            try simp only [Act.put]; try simp only [lA]; try simp only [lB]; try simp only [lC]
            refine rd1 7 rfl fun Kc hK => ?_
            go_simp
            refine hK.out _ _ trivial (fun hHeld => ?_)
            clear hK Kc
            try simp only [Act.put]; try simp only [lA]; try simp only [lB]; try simp only [lC]
            refine wpAnyH_done (by kernel_rfl) ?_ _
            clear z1 q1 hHeld
            go_wp2_with fail
            go_roundw
            case rel => exact ⟨n, a3, g3, acc ++ [x], no', nc', hp3, by omega, by omega, by simp; omega, HT3.out, HA3.out, HR3.out, HG3.out, HX3.out, HS1.out⟩
            case measure =>
              have h1 := HM.out
              have h2 := Hm.out
              rw [h2]
              refine Nat.lt_of_le_of_lt (Nat.le_of_eq (congrArg (s.size - ·) h1)) ?_
              omega
          go_simp
          refine hK.out _ _ trivial (fun hHeld => ?_)
          clear hK Kc
          try simp only [Act.put]; try simp only [lA]; try simp only [lB]; try simp only [lC]
          refine rd1 1 rfl fun Kc hK => ?_
          have c1 := HC.out _ (HK2.out.tr (Gr.n p (gr_alloc U2 (.cells #[.string y0, .string y1] 70))))
          go_simp
          clear c1
          refine hK.out _ _ trivial (fun hHeld => ?_)
          clear hK Kc
          try simp only [Act.put]; try simp only [lA]; try simp only [lB]; try simp only [lC]
          refine rd1 5 rfl fun Kc hK => ?_
          have HA2 := hidP (HA1.out.kpn (by decide) HK2.out HLp.out)
          refine step_append_anyN _ rfl (.tmp 35) (.tmp 38) 25 25 rfl 70 (.agg #[.string ⟨#[]⟩, .string ⟨#[]⟩]) 2 32 Tryz.underlying25 info59 rfl _ acc.length (acc.flatMap ncel) rfl (HA2.out.own.alloc _) _ 1 [.string y0, .string y1] rfl (src59 U2 y0 y1) (by omega) (by omega) ?_
          intro v' w1 hown hgrow hblk
          obtain ⟨no', nc', rfl⟩ := own_formK hown
          have gA : Gr U2 (U2.alloc (.cells #[.string y0, .string y1] 70)) := gr_alloc U2 _
          have kA : Keeps U2 w1 (fun z => (Value.slice no acc.length nc).ownBlock = some z) := (gA.mono fun _ _ h => h.elim).trans (Keeps.ofGrown hgrow) (fun _ _ h => h)
          have hnew : ∀ z, (Value.slice no acc.length nc).ownBlock = some z → X.heap.size ≤ z := fun z h => HA2.out.new z h
          have hT2 := HT1.out.kpn HK2.out
          have hrb := (kA.block b (lt_of_heap hT2.rb) fun h => by have := hnew b h; have := HLo.out; have := HLX.out; omega).trans hT2.rb
          have htb := (kA.block (b + 1) (lt_of_heap hT2.tb) fun h => by have := hnew _ h; have := HLo.out; have := HLX.out; omega).trans hT2.tb
          have hR3 := HR2.out.kept kA fun z h => by obtain ⟨cs, hb⟩ := own_blk HA2.out.own h; have h1 := hnew z h; have h2 := HLp.out; exact ⟨by omega, by omega, IntsB.of hb (by decide)⟩
          have e1 : [x].flatMap ncel = [.string y0, .string y1] := by rw [Hy.out.1, Hy.out.2]; rfl
          have hA3 : LAt X w1 70 2 ncel (acc ++ [x]) no' nc' := ⟨by rw [List.length_append, List.flatMap_append, e1]; exact hown, fun q h => by rw [List.length_append] at h; exact hblk.elim (fun r => hnew q (r ▸ h)) (fun r => by have := r q h; have := gA.size; have := HK2.out.size; have := HX1.out.size; omega)⟩
          have hG3 : KpN W w1 p := (HG1.out.tr HK2.out).trans kA fun j hj h => by have := hnew j h; have := HLW.out; omega
          have hX3 : KX X w1 p (b + 1) := (HX1.out.tr HK2.out).trans kA fun j hj h => by have := hnew j h; omega
          have kS : Keeps w1 (w1.setCell ⟨b + 1, 1, none⟩ (.slice no' (acc.length + 1) nc')) (fun z => z = b + 1) := (Keeps.refl w1 (fun z => z = b + 1)).setCell (p := ⟨b + 1, 1, none⟩) (fun _ => rfl) _
          have hT3 : SB W w1 p b (b + 1) (.slice fo l.length fc) (.slice no acc.length nc) := ⟨hrb, htb, hT2.lt⟩
          have HT3 : Hid (SB W (w1.setCell ⟨b + 1, 1, none⟩ (.slice no' (acc.length + 1) nc')) p b (b + 1) (.slice fo l.length fc) (.slice no' (acc ++ [x]).length nc')) := ⟨(set_other _ (by omega)).trans hrb, by have := heap_setCell_same _ (b + 1) 1 _ _ (.slice no' (acc.length + 1) nc') htb; rw [List.length_append]; exact this, hT2.lt⟩
          have HR3 := hidP (hR3.kept kS fun z h => by rw [h]; exact hT3.cok)
          have HA3 := hidP (hA3.blk kS fun z h hz hS => by have := HLo.out; have := HLX.out; omega)
          have HG3 : Hid (KpN W (w1.setCell ⟨b + 1, 1, none⟩ (.slice no' (acc.length + 1) nc')) p) := hG3.trans kS fun z hz h => by have := hT2.lt; omega
          have HX3 : Hid (KX X (w1.setCell ⟨b + 1, 1, none⟩ (.slice no' (acc.length + 1) nc')) p (b + 1)) := hX3.trans kS fun z hz h => .inr (.inl h)
          have HM := hidP HR3.out.at
          have hp3 := HR3.out.pos
          have z1 := frz htb 1
          have q1 : w1.cell? ⟨b + 1, 1, none⟩ = some (.slice no acc.length nc) := by simp [World.cell?, htb]
          clear e1 hown hgrow hblk gA kA hnew hT2 hrb hR3 hA3 hG3 hX3 kS hT3 htb HA2
          refine hK.out _ _ trivial (fun hHeld => ?_)
          clear hK Kc
          try simp only [Act.put]; try simp only [lA]; try simp only [lB]; try simp only [lC]
          refine tk (i := 6) (v := ?v6c1x31) rfl (Or.inl ⟨by rfl, ?y6c1x31⟩) ?r6c1x31
          case y6c1x31 => (intro w hSw; go_simp; (try with_reducible rfl))
          try simp only [Act.put]; try simp only [lA]; try simp only [lB]; try simp only [lC]
          refine rd1 7 rfl fun Kc hK => ?_
          go_simp
          refine hK.out _ _ trivial (fun hHeld => ?_)
          clear hK Kc
          try simp only [Act.put]; try simp only [lA]; try simp only [lB]; try simp only [lC]
          refine wpAnyH_done (by kernel_rfl) ?_ _
          clear z1 q1 hHeld
          go_wp2_with fail
          go_roundw
          case rel => exact ⟨n, a3, g3, acc ++ [x], no', nc', hp3, by omega, by omega, by simp; omega, HT3.out, HA3.out, HR3.out, HG3.out, HX3.out, HS1.out⟩
          case measure =>
            have h1 := HM.out
            have h2 := Hm.out
            rw [h2]
            refine Nat.lt_of_le_of_lt (Nat.le_of_eq (congrArg (s.size - ·) h1)) ?_
            omega
        rw [hr] at hq
        have HQ := hidP hq
        have HE : Hid (R = .ok ((l, acc), (a2, g))) := by show R = _; rw [← HS.out]; exact Pr.bind_ok (com_end hr)
        clear hq hr
        go_wp2_with (go_at_call 52; refine Hid.out ?_)
        unfold Hid
        refine Calls.mono HQ.out ?_
        rintro e' U9 ⟨hk, v, rfl, rfl, hR⟩
        replace HT := hidP (HT.out.kpn hk)
        replace HG := hidP (HG.out.tr hk)
        replace HX := hidP (HX.out.tr hk)
        replace HA := hidP (HA.out.kpn (by decide) hk HLp.out)
        replace HR := hidP hR
        clear hk hR HQ HS
        have u0 := frz HT.out.rb 0
        have v0 : U9.cell? ⟨b, 0, none⟩ = some (.slice none 0 0) := by simp [World.cell?, HT.out.rb]
        have u1 := frz HT.out.rb 1
        have v1 : U9.cell? ⟨b, 1, none⟩ = some (.slice none 0 0) := by simp [World.cell?, HT.out.rb]
        have s0 : U9.cell? ⟨b + 1, 0, none⟩ = some (.slice fo l.length fc) := by simp [World.cell?, HT.out.tb]
        have s1 : U9.cell? ⟨b + 1, 1, none⟩ = some (.slice no acc.length nc) := by simp [World.cell?, HT.out.tb]
        go_wp2_with fail
        have hb3 := put2_box (.slice fo l.length fc) (.slice no acc.length nc) HT.out.rb
        have k3 := put2_keeps U9 b (.slice fo l.length fc) (.slice no acc.length nc)
        have kW : KpN W _ p := HG.out.trans k3 fun z hz h => by have := HT.out.lt; omega
        have hrow := (HKr.out.2.nb (fun z hz => (k3.block z (Nat.lt_of_lt_of_le hz.2.1 HX.out.size) (by have := hz.1; have := HLo.out; omega)).trans (HX.out.block z hz.2.1 fun h => by have := hz.1; have := HLo.out; exact h.elim (fun h => by omega) fun h => h.elim (fun h => by omega) hz.2.2)) (Nat.le_trans HX.out.size k3.size)).low HLw.out
        (try simp only [Exit.inBlock, Exit.then])
        exact bodyPost_ret (results_cell26 rfl rfl hb3 (by kernel_rfl)) rfl (PnQ.ok kW HE.out ⟨fo, fc, no, nc, rfl, HKr.out.1, hrow, (HA.out.blk k3 fun z h hz hS => by have := HLo.out; have := HLX.out; omega).low HLW.out⟩ (HR.out.kept k3 fun z h => by rw [h]; exact HT.out.bok))
    rw [hr] at hq
    refine Calls.mono hq ?_
    rintro e' U9 ⟨hk, v, rfl, rfl, hR⟩
    have HE : Hid (R = .ok ((l, []), (aT, gX))) := by show R = _; rw [HS.out]; exact Pr.bind_ok hr
    have HT := hidP (HTX.out.kpn hk)
    have HG := hidP (HGX.out.tr hk)
    have HX := hidP ((KX.refl X p (b + 1)).tr hk)
    have HR := hidP hR
    clear hk hq hr hR
    have u0 := frz HT.out.rb 0
    have v0 : U9.cell? ⟨b, 0, none⟩ = some (.slice none 0 0) := by simp [World.cell?, HT.out.rb]
    have u1 := frz HT.out.rb 1
    have v1 : U9.cell? ⟨b, 1, none⟩ = some (.slice none 0 0) := by simp [World.cell?, HT.out.rb]
    have s0 : U9.cell? ⟨b + 1, 0, none⟩ = some (.slice fo l.length fc) := by simp [World.cell?, HT.out.tb]
    have s1 : U9.cell? ⟨b + 1, 1, none⟩ = some (.slice none 0 0) := by simp [World.cell?, HT.out.tb]
    go_wp2_with fail
    have hb3 := put2_box (.slice fo l.length fc) (.slice none 0 0) HT.out.rb
    have k3 := put2_keeps U9 b (.slice fo l.length fc) (.slice none 0 0)
    have kW : KpN W _ p := HG.out.trans k3 fun z hz h => by have := HT.out.lt; omega
    have hrow := (HKr.out.2.nb (fun z hz => (k3.block z (Nat.lt_of_lt_of_le hz.2.1 HX.out.size) (by have := hz.1; have := HLo.out; omega)).trans (HX.out.block z hz.2.1 fun h => by have := hz.1; have := HLo.out; exact h.elim (fun h => by omega) fun h => h.elim (fun h => by omega) hz.2.2)) (Nat.le_trans HX.out.size k3.size)).low HLw.out
    (try simp only [Exit.inBlock, Exit.then])
    exact bodyPost_ret (results_cell26 rfl rfl hb3 (by kernel_rfl)) rfl (PnQ.ok kW HE.out ⟨fo, fc, none, 0, rfl, HKr.out.1, hrow, LAt.nil _ _ _ _ _⟩ (HR.out.kept k3 fun z h => by rw [h]; exact HT.out.bok))
  have e124 : ((x1.toNat : Int) != 124) = true := bne_iff_ne.2 fun h => h124 (UInt8.toNat_inj.1 (by show x1.toNat = 124; omega))
  by_cases hlt : a1 < s.size
  · have HS0 : Hid (R = (manyP s.data.toList (fieldP s.data.toList D0)).bind (notesP s.data.toList) (a1, g1)) := by show R = _; rw [HSP.out, if_pos ⟨h124, hlt⟩]
    have hltI : (a1 : Int) < (s.size : Int) := by omega
    clear h124 HSP
    go_wp2_with fail
    go_region
    clear d0 d1
    have HR2 := hidP (HR1.out.gr HGd.out)
    have HG2 := hidP (HG1.out.tr (Gr.n p HGd.out))
    have HT2 := hidP (HT1.out.gr HGd.out)
    generalize U1.drew = Wl at HR2 HG2 HT2 HGd ⊢
    obtain ⟨a2, ha2⟩ : ∃ a2, a2 = a1 := ⟨_, rfl⟩
    obtain ⟨g2, hg2⟩ : ∃ g2, g2 = g1 := ⟨_, rfl⟩
    rw [← ha2, ← hg2] at HR2 HS0
    have hl2 : a0 ≤ a2 := by omega
    clear hg2
    go_wp2_with (go_at_call 51; refine Hid.out ?_)
    unfold Hid
    have hq := HF.out _ _ _ HR2.out (by have := Hsz.out; show _ < 65537; omega)
    rcases hr : manyP s.data.toList (fieldP s.data.toList D0) (a2, g2) with o | q
    · rw [hr] at hq
      refine Calls.mono hq ?_
      rintro e' U ⟨hk, rfl⟩
      have HGe := hidP (HG2.out.tr hk)
      have HE : Hid (R = .error o) := by show R = _; rw [HS0.out]; exact Pr.bind_err hr
      clear hk hq hr
      go_wp2_with fail
      exact ⟨rfl, PnQ.err HGe.out HE.out⟩
    obtain ⟨x3, a3, g3⟩ := q
    rw [hr] at hq
    refine Calls.mono hq ?_
    rintro e' U3 ⟨hk, v, rfl, ⟨fo, fc, rfl, hfc, hrow⟩, hR⟩
    have Hr3 := hidP hr
    have hl3 : a0 ≤ a3 := Nat.le_trans hl2 (fn_many (fn_field D0) _ _ _ hr).1
    have hT := HT2.out.kpn hk
    have w0 := frz hT.tb 0
    have w1 : U3.cell? ⟨b + 1, 0, none⟩ = some (.slice none 0 0) := by simp [World.cell?, hT.tb]
    have kS : Keeps U3 (U3.setCell ⟨b + 1, 0, none⟩ (.slice fo x3.length fc)) (fun z => z = b + 1) := (Keeps.refl U3 (fun z => z = b + 1)).setCell (p := ⟨b + 1, 0, none⟩) (fun _ => rfl) _
    have HLo : Hid (b + 1 < Wl.heap.size ∧ p < Wl.heap.size) := ⟨lt_of_heap HT2.out.tb, HR2.out.lt⟩
    have HLw : Hid (W.heap.size ≤ Wl.heap.size) := HG2.out.size
    have HTX : Hid (SB W (U3.setCell ⟨b + 1, 0, none⟩ (.slice fo x3.length fc)) p b (b + 1) (.slice fo x3.length fc) (.slice none 0 0)) := ⟨(set_other _ (by omega)).trans hT.rb, heap_setCell_same _ (b + 1) 0 _ _ _ hT.tb, hT.lt⟩
    have HGX : Hid (KpN W (U3.setCell ⟨b + 1, 0, none⟩ (.slice fo x3.length fc)) p) := (HG2.out.tr hk).trans kS fun z hz h => by have := hT.lt; omega
    have HRX := hidP (hR.kept kS fun z h => by rw [h]; exact hT.cok)
    have HLX : Hid (Wl.heap.size ≤ (U3.setCell ⟨b + 1, 0, none⟩ (.slice fo x3.length fc)).heap.size) := Nat.le_trans hk.size kS.size
    have HLW : Hid (W.heap.size ≤ (U3.setCell ⟨b + 1, 0, none⟩ (.slice fo x3.length fc)).heap.size) := HGX.out.size
    have HLp : Hid (p < (U3.setCell ⟨b + 1, 0, none⟩ (.slice fo x3.length fc)).heap.size) := HRX.out.lt
    have HKr : Hid (x3.length ≤ fc ∧ RowAt (NB p Wl (U3.setCell ⟨b + 1, 0, none⟩ (.slice fo x3.length fc))) (U3.setCell ⟨b + 1, 0, none⟩ (.slice fo x3.length fc)) (D0 + 1) fo x3) := ⟨hfc, hrow.nb (fun z hz => kS.block z hz.2.1 (by have := hz.1; have := HLo.out; omega)) kS.size⟩
    have HS : Hid (R = notesP s.data.toList x3 (a3, g3)) := by show R = _; rw [HS0.out]; exact Pr.bind_ok hr
    clear hk hq hr hR hT hfc hrow kS HT2 HG2 HR2 HS0 HT1 HG1 HR1 HGd
    obtain ⟨aX, haX⟩ : ∃ aX, aX = a3 := ⟨_, rfl⟩
    obtain ⟨gX, hgX⟩ : ∃ gX, gX = g3 := ⟨_, rfl⟩
    rw [← haX, ← hgX] at HRX HS
    have hlX : a0 ≤ aX := by omega
    clear hgX haX
    obtain ⟨l, hl⟩ : ∃ l, l = x3 := ⟨_, rfl⟩
    obtain ⟨X, hX⟩ : ∃ X, (U3.setCell ⟨b + 1, 0, none⟩ (.slice fo x3.length fc)) = X := ⟨_, rfl⟩
    rw [hX] at HTX HGX HRX HLX HLW HLp HKr
    rw [← hl] at HTX HKr HS
    rw [← hl] at hX
    have HXe := hidP hX
    rw [← hl]
    clear hX hl
    go_wp2_with (go_at_call 52; refine Hid.out ?_)
    unfold Hid
    (try clear w0 w1); rw [HXe.out]
    have hq := HM124.out _ _ _ HRX.out (by have := Hsz.out; show _ < 65537; omega)
    rcases takes_cases s.data.toList 124 aX gX with ⟨aT, hlT, hr⟩ | ⟨aT, hlT, hr⟩
    · rw [hr] at hq
      refine Calls.mono hq ?_
      rintro e' UT ⟨hk, v, rfl, rfl, hR⟩
      have HS1 : Hid (R = ((manyP s.data.toList (noteP s.data.toList)).bind fun ns => Pr.pure (l, ns)) (aT, gX)) := by show R = _; rw [HS.out]; exact Pr.bind_ok hr
      have HTT := hidP (HTX.out.kpn hk)
      have HGT := hidP (HGX.out.tr hk)
      have HRT := hidP hR
      have HXT := hidP ((KX.refl X p (b + 1)).tr hk)
      have hlT' : a0 ≤ aT := by omega
      clear hk hq hr hR
      go_wp2_with (go_at_call 53; refine Hid.out ?_)
      unfold Hid
      have hq := HNt.out _ _ _ HRT.out (by have := Hsz.out; show _ < 65537; omega)
      rcases hr : noteP s.data.toList (aT, gX) with o | q
      · rw [hr] at hq
        refine Calls.mono hq ?_
        rintro e' U ⟨hk, rfl⟩
        have HGe := hidP (HGT.out.tr hk)
        have HE : Hid (R = .error o) := by show R = _; rw [HS1.out]; exact Pr.bind_err (Pr.bind_err hr)
        clear hk hq hr
        go_wp2_with fail
        exact ⟨rfl, PnQ.err HGe.out HE.out⟩
      obtain ⟨xN, aN, gN⟩ := q
      rw [hr] at hq
      refine Calls.mono hq ?_
      rintro e' UN ⟨hk, v, rfl, rfl, hR⟩
      have HS2 : Hid (((comP s.data.toList (noteP s.data.toList) D0 [xN]).bind fun ns => Pr.pure (l, ns)) (aN, gN) = R) := by show _ = R; rw [HS1.out, note_bind hr]
      have hlN : aT < aN := note_lt hr
      obtain ⟨y0, hy0⟩ : ∃ y, y = xN.1 := ⟨_, rfl⟩
      obtain ⟨y1, hy1⟩ : ∃ y, y = xN.2 := ⟨_, rfl⟩
      rw [← hy0, ← hy1]
      have hT := (HTT.out.kpn hk).gr (gr_alloc UN (.cells #[.string y0, .string y1] 70))
      have gA := gr_alloc UN (.cells #[.string y0, .string y1] 70)
      have hA : LAt X (UN.alloc (.cells #[.string y0, .string y1] 70)) 70 2 ncel [xN] (some ⟨UN.heap.size, 0, none⟩) 1 := note_one (Nat.le_trans HXT.out.size hk.size) hy0 hy1
      have w0 := frz hT.tb 1
      have w1 : (UN.alloc (.cells #[.string y0, .string y1] 70)).cell? ⟨b + 1, 1, none⟩ = some (.slice none 0 0) := by simp [World.cell?, hT.tb]
      have kS : Keeps (UN.alloc (.cells #[.string y0, .string y1] 70)) ((UN.alloc (.cells #[.string y0, .string y1] 70)).setCell ⟨b + 1, 1, none⟩ (.slice (some ⟨UN.heap.size, 0, none⟩) 1 1)) (fun z => z = b + 1) := (Keeps.refl _ (fun z => z = b + 1)).setCell (p := ⟨b + 1, 1, none⟩) (fun _ => rfl) _
      have HTN : Hid (SB W ((UN.alloc (.cells #[.string y0, .string y1] 70)).setCell ⟨b + 1, 1, none⟩ (.slice (some ⟨UN.heap.size, 0, none⟩) 1 1)) p b (b + 1) (.slice fo l.length fc) (.slice (some ⟨UN.heap.size, 0, none⟩) 1 1)) := ⟨(set_other _ (by omega)).trans hT.rb, heap_setCell_same _ (b + 1) 1 _ _ _ hT.tb, hT.lt⟩
      have HGN : Hid (KpN W ((UN.alloc (.cells #[.string y0, .string y1] 70)).setCell ⟨b + 1, 1, none⟩ (.slice (some ⟨UN.heap.size, 0, none⟩) 1 1)) p) := ((HGT.out.tr hk).tr (Gr.n p gA)).trans kS fun z hz h => by have := hT.lt; omega
      have HRN := hidP ((hR.gr gA).kept kS fun z h => by rw [h]; exact hT.cok)
      have HXN : Hid (KX X ((UN.alloc (.cells #[.string y0, .string y1] 70)).setCell ⟨b + 1, 1, none⟩ (.slice (some ⟨UN.heap.size, 0, none⟩) 1 1)) p (b + 1)) := ((HXT.out.tr hk).tr (Gr.n p gA)).trans kS fun z hz h => .inr (.inl h)
      have HAN : Hid (LAt X ((UN.alloc (.cells #[.string y0, .string y1] 70)).setCell ⟨b + 1, 1, none⟩ (.slice (some ⟨UN.heap.size, 0, none⟩) 1 1)) 70 2 ncel [xN] (some ⟨UN.heap.size, 0, none⟩) 1) := hA.blk kS fun z h hz hS => by have := HLo.out; have := HLX.out; omega
      clear hk hq hr hR hT gA hA kS hy0 hy1 HTT HGT HRT HXT HS1
      have HVN : Hid (∃ V, V = ((UN.alloc (.cells #[.string y0, .string y1] 70)).setCell ⟨b + 1, 1, none⟩ (.slice (some ⟨UN.heap.size, 0, none⟩) 1 1))) := ⟨_, rfl⟩
      go_wp2_with fail
      clear w0 w1 HVN
      generalize ((UN.alloc (.cells #[.string y0, .string y1] 70)).setCell ⟨b + 1, 1, none⟩ (.slice (some ⟨UN.heap.size, 0, none⟩) 1 1)) = UL at HTN HGN HRN HXN HAN ⊢
      have hpN := HRN.out.pos
      go_loopw [] (fun wr => ∃ (n a : Nat) (g : List Nat) (acc : List (ByteArray × ByteArray)) (no : Option Addr) (nc : Nat), a ≤ s.size ∧ a0 ≤ a ∧ s.size - a < n ∧ acc.length ≤ a ∧ Hid (SB W wr p b (b + 1) (.slice fo l.length fc) (.slice no acc.length nc)) ∧ Hid (LAt X wr 70 2 ncel acc no nc) ∧ Hid (NA wr p s a g) ∧ Hid (KpN W wr p) ∧ Hid (KX X wr p (b + 1)) ∧ Hid (((comP s.data.toList (noteP s.data.toList) n acc).bind fun ns => Pr.pure (l, ns)) (a, g) = R)) (fun wr => s.size - atOf wr p)
      case atStart => exact ⟨D0, aN, gN, [xN], _, 1, hpN, by omega, by have := Hsz.out; show _ < 65537; omega, by simp; omega, HTN.out, HAN.out, HRN.out, HGN.out, HXN.out, HS2.out⟩
      case round =>
        clear HTN HAN HRN HGN HXN HS2 hpN hlN hlT hlT'
        obtain ⟨n, a, g, acc, no, nc, hp1, ha0, hn, hal, HT, HA, HR, HG, HX, HS⟩ := hrel
        obtain ⟨n, rfl⟩ : ∃ m, n = m + 1 := ⟨n - 1, by omega⟩
        have Hm := hidP HR.out.at
        have hsz := Hsz.out
        have hq := HM44.out wr a g HR.out (by have := Hsz.out; show _ < 65537; omega)
        rcases takes_cases s.data.toList 44 a g with ⟨a2, hlt, hr⟩ | ⟨a2, hle, hr⟩
        · rw [hr] at hq
          have HQ := hidP hq
          have Hr := hidP hr
          clear hq hr
          go_wp2_with (go_at_call 52; refine Calls.mono HQ.out ?_; rintro e' U1 ⟨hk, v, rfl, rfl, hR⟩; have HG1 := hidP (HG.out.tr hk); have HR1 := hidP hR; have HT1 := hidP (HT.out.kpn hk); have HA1 := hidP (HA.out.kpn (by decide) hk HLp.out); have HX1 := hidP (HX.out.tr hk); clear hk hR)
          have hp2 := HR1.out.pos
          clear HQ HT HA HR HG HX
          have hq := HNt.out U1.drew a2 g (HR1.out.gr gr_drewP) (by have := Hsz.out; show _ < 65537; omega)
          rcases hi : noteP s.data.toList (a2, g) with o | q
          · rw [hi] at hq
            have HE : Hid (R = .error o) := by show R = _; rw [← HS.out]; exact Pr.bind_err (com_err Hr.out hi)
            have HQ := hidP hq
            clear hi hq
            have HC : Hid (∀ w, Gr U1 w → w.cell? ⟨b + 1, 1, none⟩ = some (.slice no acc.length nc)) := fun w g => by have := (HT1.out.gr g).tb; simp [World.cell?, this]
            refine wp_region_held_drew (S := fun w' => True) (by kernel_rfl) (trivial) (fun hHeld => ?_)
            refine tk (i := 0) (v := ?v0a21) rfl (Or.inl ⟨by rfl, ?y0a21⟩) ?r0a21
            case y0a21 => (intro w hSw; go_simp; (try with_reducible rfl))
            try simp only [Act.put]; try simp only [lA]; try simp only [lB]; try simp only [lC]
            refine tk (i := 2) (v := ?v2a22) rfl (Or.inl ⟨by rfl, ?y2a22⟩) ?r2a22
            case y2a22 => (intro w hSw; go_simp; (try with_reducible rfl))
            try simp only [Act.put]; try simp only [lA]; try simp only [lB]; try simp only [lC]
            refine rd2 1 3 rfl rfl (fun Kc hK => ?_) fun Kc hK => ?_
            · have c1 := HC.out U1.drew gr_drewP
              go_simp
              refine hK.out _ _ trivial (fun hHeld => ?_)
              clear hK Kc
              try simp only [Act.put]; try simp only [lA]; try simp only [lB]; try simp only [lC]
              refine rd1 3 rfl fun Kc hK => ?_
              go_simp
              go_at_call 53
              refine Calls.mono HQ.out ?_
              rintro e' U2 ⟨hk, rfl⟩
              have HGe := hidP ((HG1.out.tr (Gr.n p gr_drewP)).tr hk)
              clear hk
              (try go_wp2_with fail)
              exact ⟨rfl, PnQ.err HGe.out HE.out⟩
            go_simp
            go_at_call 53
            refine Calls.mono HQ.out ?_
            rintro e' U2 ⟨hk, rfl⟩
            have HGe := hidP ((HG1.out.tr (Gr.n p gr_drewP)).tr hk)
            clear hk
            (try go_wp2_with fail)
            exact ⟨rfl, PnQ.err HGe.out HE.out⟩
          obtain ⟨x, a3, g3⟩ := q
          rw [hi] at hq
          have HS1 : Hid (((comP s.data.toList (noteP s.data.toList) n (acc ++ [x])).bind fun ns => Pr.pure (l, ns)) (a3, g3) = R) := by show _ = R; rw [← HS.out]; unfold Pr.bind; rw [com_ok Hr.out hi]
          have h23 : a2 < a3 := note_lt hi
          clear hi HS Hr
          obtain ⟨y0, hy0⟩ : ∃ y, y = x.1 := ⟨_, rfl⟩
          obtain ⟨y1, hy1⟩ : ∃ y, y = x.2 := ⟨_, rfl⟩
          have Hy : Hid (y0 = x.1 ∧ y1 = x.2) := ⟨hy0, hy1⟩
          have HQ : Hid (Calls Tryz.prog 53 #[.pointer (some ⟨p, 0, none⟩)] U1.drew fun e w' => KpN U1.drew w' p ∧ e = .returned (.agg #[.string y0, .string y1]) ∧ NA w' p s a3 g3) := Calls.mono hq fun e w' h => by obtain ⟨hk, v, rfl, rfl, hR⟩ := h; exact ⟨hk, by rw [hy0, hy1], hR⟩
          clear hy0 hy1 hq
          have HC : Hid (∀ w, KpN U1 w p → w.cell? ⟨b + 1, 1, none⟩ = some (.slice no acc.length nc)) := fun w g => by have := (HT1.out.kpn g).tb; simp [World.cell?, this]
          refine wp_region_held_drew (S := fun w' => True) (by kernel_rfl) (trivial) (fun hHeld => ?_)
          refine tk (i := 0) (v := ?v0b21) rfl (Or.inl ⟨by rfl, ?y0b21⟩) ?r0b21
          case y0b21 => (intro w hSw; go_simp; (try with_reducible rfl))
          try simp only [Act.put]; try simp only [lA]; try simp only [lB]; try simp only [lC]
          refine tk (i := 2) (v := ?v2b22) rfl (Or.inl ⟨by rfl, ?y2b22⟩) ?r2b22
          case y2b22 => (intro w hSw; go_simp; (try with_reducible rfl))
          try simp only [Act.put]; try simp only [lA]; try simp only [lB]; try simp only [lC]
          refine rd2 1 3 rfl rfl (fun Kc hK => ?_) fun Kc hK => ?_
          · have c1 := HC.out U1.drew (Gr.n p gr_drewP)
            go_simp
            clear c1
            refine hK.out _ _ trivial (fun hHeld => ?_)
            clear hK Kc
            try simp only [Act.put]; try simp only [lA]; try simp only [lB]; try simp only [lC]
            refine rd1 3 rfl fun Kc hK => ?_
            go_simp
            go_at_call 53
            refine Calls.mono HQ.out ?_
            rintro e' U2 ⟨hk, rfl, hR⟩
            have HK2 : Hid (KpN U1 U2 p) := KpN.tr (Gr.n p gr_drewP) hk
            have HR2 := hidP hR
            clear hk hR
            go_wp2_with fail
            refine hK.out _ _ trivial (fun hHeld => ?_)
            clear hK Kc
            try simp only [Act.put]; try simp only [lA]; try simp only [lB]; try simp only [lC]
            refine rd1 4 rfl fun Kc hK => ?_
            go_simp
            refine hK.out _ _ trivial (fun hHeld => ?_)
            clear hK Kc
            try simp only [Act.put]; try simp only [lA]; try simp only [lB]; try simp only [lC]
            refine rd1 5 rfl fun Kc hK => ?_
            have HA2 := hidP (HA1.out.kpn (by decide) HK2.out HLp.out)
            refine step_append_anyN _ rfl (.tmp 35) (.tmp 38) 25 25 rfl 70 (.agg #[.string ⟨#[]⟩, .string ⟨#[]⟩]) 2 32 Tryz.underlying25 info59 rfl _ acc.length (acc.flatMap ncel) rfl (HA2.out.own.alloc _) _ 1 [.string y0, .string y1] rfl (src59 U2 y0 y1) (by omega) (by omega) ?_
            intro v' w1 hown hgrow hblk
            obtain ⟨no', nc', rfl⟩ := own_formK hown
            have gA : Gr U2 (U2.alloc (.cells #[.string y0, .string y1] 70)) := gr_alloc U2 _
            have kA : Keeps U2 w1 (fun z => (Value.slice no acc.length nc).ownBlock = some z) := (gA.mono fun _ _ h => h.elim).trans (Keeps.ofGrown hgrow) (fun _ _ h => h)
            have hnew : ∀ z, (Value.slice no acc.length nc).ownBlock = some z → X.heap.size ≤ z := fun z h => HA2.out.new z h
            have hT2 := HT1.out.kpn HK2.out
            have hrb := (kA.block b (lt_of_heap hT2.rb) fun h => by have := hnew b h; have := HLo.out; have := HLX.out; omega).trans hT2.rb
            have htb := (kA.block (b + 1) (lt_of_heap hT2.tb) fun h => by have := hnew _ h; have := HLo.out; have := HLX.out; omega).trans hT2.tb
            have hR3 := HR2.out.kept kA fun z h => by obtain ⟨cs, hb⟩ := own_blk HA2.out.own h; have h1 := hnew z h; have h2 := HLp.out; exact ⟨by omega, by omega, IntsB.of hb (by decide)⟩
            have e1 : [x].flatMap ncel = [.string y0, .string y1] := by rw [Hy.out.1, Hy.out.2]; rfl
            have hA3 : LAt X w1 70 2 ncel (acc ++ [x]) no' nc' := ⟨by rw [List.length_append, List.flatMap_append, e1]; exact hown, fun q h => by rw [List.length_append] at h; exact hblk.elim (fun r => hnew q (r ▸ h)) (fun r => by have := r q h; have := gA.size; have := HK2.out.size; have := HX1.out.size; omega)⟩
            have hG3 : KpN W w1 p := (HG1.out.tr HK2.out).trans kA fun j hj h => by have := hnew j h; have := HLW.out; omega
            have hX3 : KX X w1 p (b + 1) := (HX1.out.tr HK2.out).trans kA fun j hj h => by have := hnew j h; omega
            have kS : Keeps w1 (w1.setCell ⟨b + 1, 1, none⟩ (.slice no' (acc.length + 1) nc')) (fun z => z = b + 1) := (Keeps.refl w1 (fun z => z = b + 1)).setCell (p := ⟨b + 1, 1, none⟩) (fun _ => rfl) _
            have hT3 : SB W w1 p b (b + 1) (.slice fo l.length fc) (.slice no acc.length nc) := ⟨hrb, htb, hT2.lt⟩
            have HT3 : Hid (SB W (w1.setCell ⟨b + 1, 1, none⟩ (.slice no' (acc.length + 1) nc')) p b (b + 1) (.slice fo l.length fc) (.slice no' (acc ++ [x]).length nc')) := ⟨(set_other _ (by omega)).trans hrb, by have := heap_setCell_same _ (b + 1) 1 _ _ (.slice no' (acc.length + 1) nc') htb; rw [List.length_append]; exact this, hT2.lt⟩
            have HR3 := hidP (hR3.kept kS fun z h => by rw [h]; exact hT3.cok)
            have HA3 := hidP (hA3.blk kS fun z h hz hS => by have := HLo.out; have := HLX.out; omega)
            have HG3 : Hid (KpN W (w1.setCell ⟨b + 1, 1, none⟩ (.slice no' (acc.length + 1) nc')) p) := hG3.trans kS fun z hz h => by have := hT2.lt; omega
            have HX3 : Hid (KX X (w1.setCell ⟨b + 1, 1, none⟩ (.slice no' (acc.length + 1) nc')) p (b + 1)) := hX3.trans kS fun z hz h => .inr (.inl h)
            have HM := hidP HR3.out.at
            have hp3 := HR3.out.pos
            have z1 := frz htb 1
            have q1 : w1.cell? ⟨b + 1, 1, none⟩ = some (.slice no acc.length nc) := by simp [World.cell?, htb]
            clear e1 hown hgrow hblk gA kA hnew hT2 hrb hR3 hA3 hG3 hX3 kS hT3 htb HA2
            refine hK.out _ _ trivial (fun hHeld => ?_)
            clear hK Kc
            try simp only [Act.put]; try simp only [lA]; try simp only [lB]; try simp only [lC]
            refine tk (i := 6) (v := ?v6c2x11) rfl (Or.inl ⟨by rfl, ?y6c2x11⟩) ?r6c2x11
            case y6c2x11 => (intro w hSw; go_simp; (try with_reducible rfl))
            try simp only [Act.put]; try simp only [lA]; try simp only [lB]; try simp only [lC]
            refine rd1 7 rfl fun Kc hK => ?_
            go_simp
            refine hK.out _ _ trivial (fun hHeld => ?_)
            clear hK Kc
            try simp only [Act.put]; try simp only [lA]; try simp only [lB]; try simp only [lC]
            refine wpAnyH_done (by kernel_rfl) ?_ _
            clear z1 q1 hHeld
            go_wp2_with fail
            go_roundw
            case rel => exact ⟨n, a3, g3, acc ++ [x], no', nc', hp3, by omega, by omega, by simp; omega, HT3.out, HA3.out, HR3.out, HG3.out, HX3.out, HS1.out⟩
            case measure =>
              have h1 := HM.out
              have h2 := Hm.out
              rw [h2]
              refine Nat.lt_of_le_of_lt (Nat.le_of_eq (congrArg (s.size - ·) h1)) ?_
              omega
          go_simp
          go_at_call 53
          refine Calls.mono HQ.out ?_
          rintro e' U2 ⟨hk, rfl, hR⟩
          have HK2 : Hid (KpN U1 U2 p) := KpN.tr (Gr.n p gr_drewP) hk
          have HR2 := hidP hR
          clear hk hR
          go_wp2_with fail
          refine hK.out _ _ trivial (fun hHeld => ?_)
          clear hK Kc
          try simp only [Act.put]; try simp only [lA]; try simp only [lB]; try simp only [lC]
          refine rd2 1 4 rfl rfl (fun Kc hK => ?_) fun Kc hK => ?_
          · have c1 := HC.out U2 (HK2.out)
            go_simp
            clear c1
            refine hK.out _ _ trivial (fun hHeld => ?_)
            clear hK Kc
            try simp only [Act.put]; try simp only [lA]; try simp only [lB]; try simp only [lC]
            refine rd1 4 rfl fun Kc hK => ?_
            go_simp
            refine hK.out _ _ trivial (fun hHeld => ?_)
            clear hK Kc
            try simp only [Act.put]; try simp only [lA]; try simp only [lB]; try simp only [lC]
            refine rd1 5 rfl fun Kc hK => ?_
            have HA2 := hidP (HA1.out.kpn (by decide) HK2.out HLp.out)
            refine step_append_anyN _ rfl (.tmp 35) (.tmp 38) 25 25 rfl 70 (.agg #[.string ⟨#[]⟩, .string ⟨#[]⟩]) 2 32 Tryz.underlying25 info59 rfl _ acc.length (acc.flatMap ncel) rfl (HA2.out.own.alloc _) _ 1 [.string y0, .string y1] rfl (src59 U2 y0 y1) (by omega) (by omega) ?_
            intro v' w1 hown hgrow hblk
            obtain ⟨no', nc', rfl⟩ := own_formK hown
            have gA : Gr U2 (U2.alloc (.cells #[.string y0, .string y1] 70)) := gr_alloc U2 _
            have kA : Keeps U2 w1 (fun z => (Value.slice no acc.length nc).ownBlock = some z) := (gA.mono fun _ _ h => h.elim).trans (Keeps.ofGrown hgrow) (fun _ _ h => h)
            have hnew : ∀ z, (Value.slice no acc.length nc).ownBlock = some z → X.heap.size ≤ z := fun z h => HA2.out.new z h
            have hT2 := HT1.out.kpn HK2.out
            have hrb := (kA.block b (lt_of_heap hT2.rb) fun h => by have := hnew b h; have := HLo.out; have := HLX.out; omega).trans hT2.rb
            have htb := (kA.block (b + 1) (lt_of_heap hT2.tb) fun h => by have := hnew _ h; have := HLo.out; have := HLX.out; omega).trans hT2.tb
            have hR3 := HR2.out.kept kA fun z h => by obtain ⟨cs, hb⟩ := own_blk HA2.out.own h; have h1 := hnew z h; have h2 := HLp.out; exact ⟨by omega, by omega, IntsB.of hb (by decide)⟩
            have e1 : [x].flatMap ncel = [.string y0, .string y1] := by rw [Hy.out.1, Hy.out.2]; rfl
            have hA3 : LAt X w1 70 2 ncel (acc ++ [x]) no' nc' := ⟨by rw [List.length_append, List.flatMap_append, e1]; exact hown, fun q h => by rw [List.length_append] at h; exact hblk.elim (fun r => hnew q (r ▸ h)) (fun r => by have := r q h; have := gA.size; have := HK2.out.size; have := HX1.out.size; omega)⟩
            have hG3 : KpN W w1 p := (HG1.out.tr HK2.out).trans kA fun j hj h => by have := hnew j h; have := HLW.out; omega
            have hX3 : KX X w1 p (b + 1) := (HX1.out.tr HK2.out).trans kA fun j hj h => by have := hnew j h; omega
            have kS : Keeps w1 (w1.setCell ⟨b + 1, 1, none⟩ (.slice no' (acc.length + 1) nc')) (fun z => z = b + 1) := (Keeps.refl w1 (fun z => z = b + 1)).setCell (p := ⟨b + 1, 1, none⟩) (fun _ => rfl) _
            have hT3 : SB W w1 p b (b + 1) (.slice fo l.length fc) (.slice no acc.length nc) := ⟨hrb, htb, hT2.lt⟩
            have HT3 : Hid (SB W (w1.setCell ⟨b + 1, 1, none⟩ (.slice no' (acc.length + 1) nc')) p b (b + 1) (.slice fo l.length fc) (.slice no' (acc ++ [x]).length nc')) := ⟨(set_other _ (by omega)).trans hrb, by have := heap_setCell_same _ (b + 1) 1 _ _ (.slice no' (acc.length + 1) nc') htb; rw [List.length_append]; exact this, hT2.lt⟩
            have HR3 := hidP (hR3.kept kS fun z h => by rw [h]; exact hT3.cok)
            have HA3 := hidP (hA3.blk kS fun z h hz hS => by have := HLo.out; have := HLX.out; omega)
            have HG3 : Hid (KpN W (w1.setCell ⟨b + 1, 1, none⟩ (.slice no' (acc.length + 1) nc')) p) := hG3.trans kS fun z hz h => by have := hT2.lt; omega
            have HX3 : Hid (KX X (w1.setCell ⟨b + 1, 1, none⟩ (.slice no' (acc.length + 1) nc')) p (b + 1)) := hX3.trans kS fun z hz h => .inr (.inl h)
            have HM := hidP HR3.out.at
            have hp3 := HR3.out.pos
            have z1 := frz htb 1
            have q1 : w1.cell? ⟨b + 1, 1, none⟩ = some (.slice no acc.length nc) := by simp [World.cell?, htb]
            clear e1 hown hgrow hblk gA kA hnew hT2 hrb hR3 hA3 hG3 hX3 kS hT3 htb HA2
            refine hK.out _ _ trivial (fun hHeld => ?_)
            clear hK Kc
            try simp only [Act.put]; try simp only [lA]; try simp only [lB]; try simp only [lC]
            refine tk (i := 6) (v := ?v6c2x21) rfl (Or.inl ⟨by rfl, ?y6c2x21⟩) ?r6c2x21
            case y6c2x21 => (intro w hSw; go_simp; (try with_reducible rfl))
            try simp only [Act.put]; try simp only [lA]; try simp only [lB]; try simp only [lC]
            refine rd1 7 rfl fun Kc hK => ?_
            go_simp
            refine hK.out _ _ trivial (fun hHeld => ?_)
            clear hK Kc
            try simp only [Act.put]; try simp only [lA]; try simp only [lB]; try simp only [lC]
            refine wpAnyH_done (by kernel_rfl) ?_ _
            clear z1 q1 hHeld
            go_wp2_with fail
            go_roundw
            case rel => exact ⟨n, a3, g3, acc ++ [x], no', nc', hp3, by omega, by omega, by simp; omega, HT3.out, HA3.out, HR3.out, HG3.out, HX3.out, HS1.out⟩
            case measure =>
              have h1 := HM.out
              have h2 := Hm.out
              rw [h2]
              refine Nat.lt_of_le_of_lt (Nat.le_of_eq (congrArg (s.size - ·) h1)) ?_
              omega
          go_simp
          refine hK.out _ _ trivial (fun hHeld => ?_)
          clear hK Kc
          try simp only [Act.put]; try simp only [lA]; try simp only [lB]; try simp only [lC]
          refine rd1 1 rfl fun Kc hK => ?_
          have c1 := HC.out _ (HK2.out.tr (Gr.n p (gr_alloc U2 (.cells #[.string y0, .string y1] 70))))
          go_simp
          clear c1
          refine hK.out _ _ trivial (fun hHeld => ?_)
          clear hK Kc
          try simp only [Act.put]; try simp only [lA]; try simp only [lB]; try simp only [lC]
          refine rd1 5 rfl fun Kc hK => ?_
          have HA2 := hidP (HA1.out.kpn (by decide) HK2.out HLp.out)
          refine step_append_anyN _ rfl (.tmp 35) (.tmp 38) 25 25 rfl 70 (.agg #[.string ⟨#[]⟩, .string ⟨#[]⟩]) 2 32 Tryz.underlying25 info59 rfl _ acc.length (acc.flatMap ncel) rfl (HA2.out.own.alloc _) _ 1 [.string y0, .string y1] rfl (src59 U2 y0 y1) (by omega) (by omega) ?_
          intro v' w1 hown hgrow hblk
          obtain ⟨no', nc', rfl⟩ := own_formK hown
          have gA : Gr U2 (U2.alloc (.cells #[.string y0, .string y1] 70)) := gr_alloc U2 _
          have kA : Keeps U2 w1 (fun z => (Value.slice no acc.length nc).ownBlock = some z) := (gA.mono fun _ _ h => h.elim).trans (Keeps.ofGrown hgrow) (fun _ _ h => h)
          have hnew : ∀ z, (Value.slice no acc.length nc).ownBlock = some z → X.heap.size ≤ z := fun z h => HA2.out.new z h
          have hT2 := HT1.out.kpn HK2.out
          have hrb := (kA.block b (lt_of_heap hT2.rb) fun h => by have := hnew b h; have := HLo.out; have := HLX.out; omega).trans hT2.rb
          have htb := (kA.block (b + 1) (lt_of_heap hT2.tb) fun h => by have := hnew _ h; have := HLo.out; have := HLX.out; omega).trans hT2.tb
          have hR3 := HR2.out.kept kA fun z h => by obtain ⟨cs, hb⟩ := own_blk HA2.out.own h; have h1 := hnew z h; have h2 := HLp.out; exact ⟨by omega, by omega, IntsB.of hb (by decide)⟩
          have e1 : [x].flatMap ncel = [.string y0, .string y1] := by rw [Hy.out.1, Hy.out.2]; rfl
          have hA3 : LAt X w1 70 2 ncel (acc ++ [x]) no' nc' := ⟨by rw [List.length_append, List.flatMap_append, e1]; exact hown, fun q h => by rw [List.length_append] at h; exact hblk.elim (fun r => hnew q (r ▸ h)) (fun r => by have := r q h; have := gA.size; have := HK2.out.size; have := HX1.out.size; omega)⟩
          have hG3 : KpN W w1 p := (HG1.out.tr HK2.out).trans kA fun j hj h => by have := hnew j h; have := HLW.out; omega
          have hX3 : KX X w1 p (b + 1) := (HX1.out.tr HK2.out).trans kA fun j hj h => by have := hnew j h; omega
          have kS : Keeps w1 (w1.setCell ⟨b + 1, 1, none⟩ (.slice no' (acc.length + 1) nc')) (fun z => z = b + 1) := (Keeps.refl w1 (fun z => z = b + 1)).setCell (p := ⟨b + 1, 1, none⟩) (fun _ => rfl) _
          have hT3 : SB W w1 p b (b + 1) (.slice fo l.length fc) (.slice no acc.length nc) := ⟨hrb, htb, hT2.lt⟩
          have HT3 : Hid (SB W (w1.setCell ⟨b + 1, 1, none⟩ (.slice no' (acc.length + 1) nc')) p b (b + 1) (.slice fo l.length fc) (.slice no' (acc ++ [x]).length nc')) := ⟨(set_other _ (by omega)).trans hrb, by have := heap_setCell_same _ (b + 1) 1 _ _ (.slice no' (acc.length + 1) nc') htb; rw [List.length_append]; exact this, hT2.lt⟩
          have HR3 := hidP (hR3.kept kS fun z h => by rw [h]; exact hT3.cok)
          have HA3 := hidP (hA3.blk kS fun z h hz hS => by have := HLo.out; have := HLX.out; omega)
          have HG3 : Hid (KpN W (w1.setCell ⟨b + 1, 1, none⟩ (.slice no' (acc.length + 1) nc')) p) := hG3.trans kS fun z hz h => by have := hT2.lt; omega
          have HX3 : Hid (KX X (w1.setCell ⟨b + 1, 1, none⟩ (.slice no' (acc.length + 1) nc')) p (b + 1)) := hX3.trans kS fun z hz h => .inr (.inl h)
          have HM := hidP HR3.out.at
          have hp3 := HR3.out.pos
          have z1 := frz htb 1
          have q1 : w1.cell? ⟨b + 1, 1, none⟩ = some (.slice no acc.length nc) := by simp [World.cell?, htb]
          clear e1 hown hgrow hblk gA kA hnew hT2 hrb hR3 hA3 hG3 hX3 kS hT3 htb HA2
          refine hK.out _ _ trivial (fun hHeld => ?_)
          clear hK Kc
          try simp only [Act.put]; try simp only [lA]; try simp only [lB]; try simp only [lC]
          refine tk (i := 6) (v := ?v6c2x31) rfl (Or.inl ⟨by rfl, ?y6c2x31⟩) ?r6c2x31
          case y6c2x31 => (intro w hSw; go_simp; (try with_reducible rfl))
          try simp only [Act.put]; try simp only [lA]; try simp only [lB]; try simp only [lC]
          refine rd1 7 rfl fun Kc hK => ?_
          go_simp
          refine hK.out _ _ trivial (fun hHeld => ?_)
          clear hK Kc
          try simp only [Act.put]; try simp only [lA]; try simp only [lB]; try simp only [lC]
          refine wpAnyH_done (by kernel_rfl) ?_ _
          clear z1 q1 hHeld
          go_wp2_with fail
          go_roundw
          case rel => exact ⟨n, a3, g3, acc ++ [x], no', nc', hp3, by omega, by omega, by simp; omega, HT3.out, HA3.out, HR3.out, HG3.out, HX3.out, HS1.out⟩
          case measure =>
            have h1 := HM.out
            have h2 := Hm.out
            rw [h2]
            refine Nat.lt_of_le_of_lt (Nat.le_of_eq (congrArg (s.size - ·) h1)) ?_
            omega
        rw [hr] at hq
        have HQ := hidP hq
        have HE : Hid (R = .ok ((l, acc), (a2, g))) := by show R = _; rw [← HS.out]; exact Pr.bind_ok (com_end hr)
        clear hq hr
        go_wp2_with (go_at_call 52; refine Hid.out ?_)
        unfold Hid
        refine Calls.mono HQ.out ?_
        rintro e' U9 ⟨hk, v, rfl, rfl, hR⟩
        replace HT := hidP (HT.out.kpn hk)
        replace HG := hidP (HG.out.tr hk)
        replace HX := hidP (HX.out.tr hk)
        replace HA := hidP (HA.out.kpn (by decide) hk HLp.out)
        replace HR := hidP hR
        clear hk hR HQ HS
        have u0 := frz HT.out.rb 0
        have v0 : U9.cell? ⟨b, 0, none⟩ = some (.slice none 0 0) := by simp [World.cell?, HT.out.rb]
        have u1 := frz HT.out.rb 1
        have v1 : U9.cell? ⟨b, 1, none⟩ = some (.slice none 0 0) := by simp [World.cell?, HT.out.rb]
        have s0 : U9.cell? ⟨b + 1, 0, none⟩ = some (.slice fo l.length fc) := by simp [World.cell?, HT.out.tb]
        have s1 : U9.cell? ⟨b + 1, 1, none⟩ = some (.slice no acc.length nc) := by simp [World.cell?, HT.out.tb]
        go_wp2_with fail
        have hb3 := put2_box (.slice fo l.length fc) (.slice no acc.length nc) HT.out.rb
        have k3 := put2_keeps U9 b (.slice fo l.length fc) (.slice no acc.length nc)
        have kW : KpN W _ p := HG.out.trans k3 fun z hz h => by have := HT.out.lt; omega
        have hrow := (HKr.out.2.nb (fun z hz => (k3.block z (Nat.lt_of_lt_of_le hz.2.1 HX.out.size) (by have := hz.1; have := HLo.out; omega)).trans (HX.out.block z hz.2.1 fun h => by have := hz.1; have := HLo.out; exact h.elim (fun h => by omega) fun h => h.elim (fun h => by omega) hz.2.2)) (Nat.le_trans HX.out.size k3.size)).low HLw.out
        (try simp only [Exit.inBlock, Exit.then])
        exact bodyPost_ret (results_cell26 rfl rfl hb3 (by kernel_rfl)) rfl (PnQ.ok kW HE.out ⟨fo, fc, no, nc, rfl, HKr.out.1, hrow, (HA.out.blk k3 fun z h hz hS => by have := HLo.out; have := HLX.out; omega).low HLW.out⟩ (HR.out.kept k3 fun z h => by rw [h]; exact HT.out.bok))
    rw [hr] at hq
    refine Calls.mono hq ?_
    rintro e' U9 ⟨hk, v, rfl, rfl, hR⟩
    have HE : Hid (R = .ok ((l, []), (aT, gX))) := by show R = _; rw [HS.out]; exact Pr.bind_ok hr
    have HT := hidP (HTX.out.kpn hk)
    have HG := hidP (HGX.out.tr hk)
    have HX := hidP ((KX.refl X p (b + 1)).tr hk)
    have HR := hidP hR
    clear hk hq hr hR
    have u0 := frz HT.out.rb 0
    have v0 : U9.cell? ⟨b, 0, none⟩ = some (.slice none 0 0) := by simp [World.cell?, HT.out.rb]
    have u1 := frz HT.out.rb 1
    have v1 : U9.cell? ⟨b, 1, none⟩ = some (.slice none 0 0) := by simp [World.cell?, HT.out.rb]
    have s0 : U9.cell? ⟨b + 1, 0, none⟩ = some (.slice fo l.length fc) := by simp [World.cell?, HT.out.tb]
    have s1 : U9.cell? ⟨b + 1, 1, none⟩ = some (.slice none 0 0) := by simp [World.cell?, HT.out.tb]
    go_wp2_with fail
    have hb3 := put2_box (.slice fo l.length fc) (.slice none 0 0) HT.out.rb
    have k3 := put2_keeps U9 b (.slice fo l.length fc) (.slice none 0 0)
    have kW : KpN W _ p := HG.out.trans k3 fun z hz h => by have := HT.out.lt; omega
    have hrow := (HKr.out.2.nb (fun z hz => (k3.block z (Nat.lt_of_lt_of_le hz.2.1 HX.out.size) (by have := hz.1; have := HLo.out; omega)).trans (HX.out.block z hz.2.1 fun h => by have := hz.1; have := HLo.out; exact h.elim (fun h => by omega) fun h => h.elim (fun h => by omega) hz.2.2)) (Nat.le_trans HX.out.size k3.size)).low HLw.out
    (try simp only [Exit.inBlock, Exit.then])
    exact bodyPost_ret (results_cell26 rfl rfl hb3 (by kernel_rfl)) rfl (PnQ.ok kW HE.out ⟨fo, fc, none, 0, rfl, HKr.out.1, hrow, LAt.nil _ _ _ _ _⟩ (HR.out.kept k3 fun z h => by rw [h]; exact HT.out.bok))
  have HS : Hid (R = notesP s.data.toList [] (a1, g1)) := by show R = _; rw [HSP.out, if_neg (fun h => hlt h.2)]
  have hltI : ¬ (a1 : Int) < (s.size : Int) := by omega
  clear h124 HSP
  go_wp2_with fail
  go_region
  clear d0 d1
  have HRX := hidP (HR1.out.gr HGd.out)
  have HGX := hidP (HG1.out.tr (Gr.n p HGd.out))
  have HTX := hidP (HT1.out.gr HGd.out)
  generalize U1.drew = X at HRX HGX HTX HGd ⊢
  obtain ⟨l, fo, fc, aX, gX, hX⟩ : ∃ (l : List FT) (fo : Option Addr) (fc aX : Nat) (gX : List Nat), l = [] ∧ fo = none ∧ fc = 0 ∧ aX = a1 ∧ gX = g1 := ⟨[], none, 0, a1, g1, rfl, rfl, rfl, rfl, rfl⟩
  obtain ⟨rfl, rfl, rfl, rfl, rfl⟩ := hX
  have HKr : Hid (([] : List FT).length ≤ 0 ∧ RowAt (NB p X X) X (D0 + 1) none ([] : List FT)) := ⟨Nat.le_refl _, by simp [big], fun h => absurd rfl h⟩
  have HLo : Hid (b + 1 < X.heap.size ∧ p < X.heap.size) := ⟨lt_of_heap HTX.out.tb, HRX.out.lt⟩
  have HLw : Hid (W.heap.size ≤ X.heap.size) := HGX.out.size
  have HLX : Hid (X.heap.size ≤ X.heap.size) := Nat.le_refl _
  have HLW := HLw
  have HLp : Hid (p < X.heap.size) := HRX.out.lt
  have hlX : a0 ≤ aX := hl1
  obtain ⟨l, hl⟩ : ∃ l : List FT, l = [] := ⟨_, rfl⟩
  obtain ⟨fo, hfo⟩ : ∃ fo : Option Addr, fo = none := ⟨_, rfl⟩
  obtain ⟨fc, hfc⟩ : ∃ fc : Nat, fc = 0 := ⟨_, rfl⟩
  have hll : (0 : Nat) = l.length := by rw [hl]; rfl
  rw [← hl, ← hfo, ← hfc] at HKr
  rw [← hl] at HS
  have HTX : Hid (SB W X p b (b + 1) (.slice fo l.length fc) (.slice none 0 0)) := by rw [← hll, hfo, hfc]; exact HTX
  clear hl hfo hfc hll
  go_wp2_with (go_at_call 52; refine Hid.out ?_)
  unfold Hid
  (try clear w0 w1)
  have hq := HM124.out _ _ _ HRX.out (by have := Hsz.out; show _ < 65537; omega)
  rcases takes_cases s.data.toList 124 aX gX with ⟨aT, hlT, hr⟩ | ⟨aT, hlT, hr⟩
  · rw [hr] at hq
    refine Calls.mono hq ?_
    rintro e' UT ⟨hk, v, rfl, rfl, hR⟩
    have HS1 : Hid (R = ((manyP s.data.toList (noteP s.data.toList)).bind fun ns => Pr.pure (l, ns)) (aT, gX)) := by show R = _; rw [HS.out]; exact Pr.bind_ok hr
    have HTT := hidP (HTX.out.kpn hk)
    have HGT := hidP (HGX.out.tr hk)
    have HRT := hidP hR
    have HXT := hidP ((KX.refl X p (b + 1)).tr hk)
    have hlT' : a0 ≤ aT := by omega
    clear hk hq hr hR
    go_wp2_with (go_at_call 53; refine Hid.out ?_)
    unfold Hid
    have hq := HNt.out _ _ _ HRT.out (by have := Hsz.out; show _ < 65537; omega)
    rcases hr : noteP s.data.toList (aT, gX) with o | q
    · rw [hr] at hq
      refine Calls.mono hq ?_
      rintro e' U ⟨hk, rfl⟩
      have HGe := hidP (HGT.out.tr hk)
      have HE : Hid (R = .error o) := by show R = _; rw [HS1.out]; exact Pr.bind_err (Pr.bind_err hr)
      clear hk hq hr
      go_wp2_with fail
      exact ⟨rfl, PnQ.err HGe.out HE.out⟩
    obtain ⟨xN, aN, gN⟩ := q
    rw [hr] at hq
    refine Calls.mono hq ?_
    rintro e' UN ⟨hk, v, rfl, rfl, hR⟩
    have HS2 : Hid (((comP s.data.toList (noteP s.data.toList) D0 [xN]).bind fun ns => Pr.pure (l, ns)) (aN, gN) = R) := by show _ = R; rw [HS1.out, note_bind hr]
    have hlN : aT < aN := note_lt hr
    obtain ⟨y0, hy0⟩ : ∃ y, y = xN.1 := ⟨_, rfl⟩
    obtain ⟨y1, hy1⟩ : ∃ y, y = xN.2 := ⟨_, rfl⟩
    rw [← hy0, ← hy1]
    have hT := (HTT.out.kpn hk).gr (gr_alloc UN (.cells #[.string y0, .string y1] 70))
    have gA := gr_alloc UN (.cells #[.string y0, .string y1] 70)
    have hA : LAt X (UN.alloc (.cells #[.string y0, .string y1] 70)) 70 2 ncel [xN] (some ⟨UN.heap.size, 0, none⟩) 1 := note_one (Nat.le_trans HXT.out.size hk.size) hy0 hy1
    have w0 := frz hT.tb 1
    have w1 : (UN.alloc (.cells #[.string y0, .string y1] 70)).cell? ⟨b + 1, 1, none⟩ = some (.slice none 0 0) := by simp [World.cell?, hT.tb]
    have kS : Keeps (UN.alloc (.cells #[.string y0, .string y1] 70)) ((UN.alloc (.cells #[.string y0, .string y1] 70)).setCell ⟨b + 1, 1, none⟩ (.slice (some ⟨UN.heap.size, 0, none⟩) 1 1)) (fun z => z = b + 1) := (Keeps.refl _ (fun z => z = b + 1)).setCell (p := ⟨b + 1, 1, none⟩) (fun _ => rfl) _
    have HTN : Hid (SB W ((UN.alloc (.cells #[.string y0, .string y1] 70)).setCell ⟨b + 1, 1, none⟩ (.slice (some ⟨UN.heap.size, 0, none⟩) 1 1)) p b (b + 1) (.slice fo l.length fc) (.slice (some ⟨UN.heap.size, 0, none⟩) 1 1)) := ⟨(set_other _ (by omega)).trans hT.rb, heap_setCell_same _ (b + 1) 1 _ _ _ hT.tb, hT.lt⟩
    have HGN : Hid (KpN W ((UN.alloc (.cells #[.string y0, .string y1] 70)).setCell ⟨b + 1, 1, none⟩ (.slice (some ⟨UN.heap.size, 0, none⟩) 1 1)) p) := ((HGT.out.tr hk).tr (Gr.n p gA)).trans kS fun z hz h => by have := hT.lt; omega
    have HRN := hidP ((hR.gr gA).kept kS fun z h => by rw [h]; exact hT.cok)
    have HXN : Hid (KX X ((UN.alloc (.cells #[.string y0, .string y1] 70)).setCell ⟨b + 1, 1, none⟩ (.slice (some ⟨UN.heap.size, 0, none⟩) 1 1)) p (b + 1)) := ((HXT.out.tr hk).tr (Gr.n p gA)).trans kS fun z hz h => .inr (.inl h)
    have HAN : Hid (LAt X ((UN.alloc (.cells #[.string y0, .string y1] 70)).setCell ⟨b + 1, 1, none⟩ (.slice (some ⟨UN.heap.size, 0, none⟩) 1 1)) 70 2 ncel [xN] (some ⟨UN.heap.size, 0, none⟩) 1) := hA.blk kS fun z h hz hS => by have := HLo.out; have := HLX.out; omega
    clear hk hq hr hR hT gA hA kS hy0 hy1 HTT HGT HRT HXT HS1
    have HVN : Hid (∃ V, V = ((UN.alloc (.cells #[.string y0, .string y1] 70)).setCell ⟨b + 1, 1, none⟩ (.slice (some ⟨UN.heap.size, 0, none⟩) 1 1))) := ⟨_, rfl⟩
    go_wp2_with fail
    clear w0 w1 HVN
    generalize ((UN.alloc (.cells #[.string y0, .string y1] 70)).setCell ⟨b + 1, 1, none⟩ (.slice (some ⟨UN.heap.size, 0, none⟩) 1 1)) = UL at HTN HGN HRN HXN HAN ⊢
    have hpN := HRN.out.pos
    go_loopw [] (fun wr => ∃ (n a : Nat) (g : List Nat) (acc : List (ByteArray × ByteArray)) (no : Option Addr) (nc : Nat), a ≤ s.size ∧ a0 ≤ a ∧ s.size - a < n ∧ acc.length ≤ a ∧ Hid (SB W wr p b (b + 1) (.slice fo l.length fc) (.slice no acc.length nc)) ∧ Hid (LAt X wr 70 2 ncel acc no nc) ∧ Hid (NA wr p s a g) ∧ Hid (KpN W wr p) ∧ Hid (KX X wr p (b + 1)) ∧ Hid (((comP s.data.toList (noteP s.data.toList) n acc).bind fun ns => Pr.pure (l, ns)) (a, g) = R)) (fun wr => s.size - atOf wr p)
    case atStart => exact ⟨D0, aN, gN, [xN], _, 1, hpN, by omega, by have := Hsz.out; show _ < 65537; omega, by simp; omega, HTN.out, HAN.out, HRN.out, HGN.out, HXN.out, HS2.out⟩
    case round =>
      clear HTN HAN HRN HGN HXN HS2 hpN hlN hlT hlT'
      obtain ⟨n, a, g, acc, no, nc, hp1, ha0, hn, hal, HT, HA, HR, HG, HX, HS⟩ := hrel
      obtain ⟨n, rfl⟩ : ∃ m, n = m + 1 := ⟨n - 1, by omega⟩
      have Hm := hidP HR.out.at
      have hsz := Hsz.out
      have hq := HM44.out wr a g HR.out (by have := Hsz.out; show _ < 65537; omega)
      rcases takes_cases s.data.toList 44 a g with ⟨a2, hlt, hr⟩ | ⟨a2, hle, hr⟩
      · rw [hr] at hq
        have HQ := hidP hq
        have Hr := hidP hr
        clear hq hr
        go_wp2_with (go_at_call 52; refine Calls.mono HQ.out ?_; rintro e' U1 ⟨hk, v, rfl, rfl, hR⟩; have HG1 := hidP (HG.out.tr hk); have HR1 := hidP hR; have HT1 := hidP (HT.out.kpn hk); have HA1 := hidP (HA.out.kpn (by decide) hk HLp.out); have HX1 := hidP (HX.out.tr hk); clear hk hR)
        have hp2 := HR1.out.pos
        clear HQ HT HA HR HG HX
        have hq := HNt.out U1.drew a2 g (HR1.out.gr gr_drewP) (by have := Hsz.out; show _ < 65537; omega)
        rcases hi : noteP s.data.toList (a2, g) with o | q
        · rw [hi] at hq
          have HE : Hid (R = .error o) := by show R = _; rw [← HS.out]; exact Pr.bind_err (com_err Hr.out hi)
          have HQ := hidP hq
          clear hi hq
          have HC : Hid (∀ w, Gr U1 w → w.cell? ⟨b + 1, 1, none⟩ = some (.slice no acc.length nc)) := fun w g => by have := (HT1.out.gr g).tb; simp [World.cell?, this]
          refine wp_region_held_drew (S := fun w' => True) (by kernel_rfl) (trivial) (fun hHeld => ?_)
          refine tk (i := 0) (v := ?v0a31) rfl (Or.inl ⟨by rfl, ?y0a31⟩) ?r0a31
          case y0a31 => (intro w hSw; go_simp; (try with_reducible rfl))
          try simp only [Act.put]; try simp only [lA]; try simp only [lB]; try simp only [lC]
          refine tk (i := 2) (v := ?v2a32) rfl (Or.inl ⟨by rfl, ?y2a32⟩) ?r2a32
          case y2a32 => (intro w hSw; go_simp; (try with_reducible rfl))
          try simp only [Act.put]; try simp only [lA]; try simp only [lB]; try simp only [lC]
          refine rd2 1 3 rfl rfl (fun Kc hK => ?_) fun Kc hK => ?_
          · have c1 := HC.out U1.drew gr_drewP
            go_simp
            refine hK.out _ _ trivial (fun hHeld => ?_)
            clear hK Kc
            try simp only [Act.put]; try simp only [lA]; try simp only [lB]; try simp only [lC]
            refine rd1 3 rfl fun Kc hK => ?_
            go_simp
            go_at_call 53
            refine Calls.mono HQ.out ?_
            rintro e' U2 ⟨hk, rfl⟩
            have HGe := hidP ((HG1.out.tr (Gr.n p gr_drewP)).tr hk)
            clear hk
            (try go_wp2_with fail)
            exact ⟨rfl, PnQ.err HGe.out HE.out⟩
          go_simp
          go_at_call 53
          refine Calls.mono HQ.out ?_
          rintro e' U2 ⟨hk, rfl⟩
          have HGe := hidP ((HG1.out.tr (Gr.n p gr_drewP)).tr hk)
          clear hk
          (try go_wp2_with fail)
          exact ⟨rfl, PnQ.err HGe.out HE.out⟩
        obtain ⟨x, a3, g3⟩ := q
        rw [hi] at hq
        have HS1 : Hid (((comP s.data.toList (noteP s.data.toList) n (acc ++ [x])).bind fun ns => Pr.pure (l, ns)) (a3, g3) = R) := by show _ = R; rw [← HS.out]; unfold Pr.bind; rw [com_ok Hr.out hi]
        have h23 : a2 < a3 := note_lt hi
        clear hi HS Hr
        obtain ⟨y0, hy0⟩ : ∃ y, y = x.1 := ⟨_, rfl⟩
        obtain ⟨y1, hy1⟩ : ∃ y, y = x.2 := ⟨_, rfl⟩
        have Hy : Hid (y0 = x.1 ∧ y1 = x.2) := ⟨hy0, hy1⟩
        have HQ : Hid (Calls Tryz.prog 53 #[.pointer (some ⟨p, 0, none⟩)] U1.drew fun e w' => KpN U1.drew w' p ∧ e = .returned (.agg #[.string y0, .string y1]) ∧ NA w' p s a3 g3) := Calls.mono hq fun e w' h => by obtain ⟨hk, v, rfl, rfl, hR⟩ := h; exact ⟨hk, by rw [hy0, hy1], hR⟩
        clear hy0 hy1 hq
        have HC : Hid (∀ w, KpN U1 w p → w.cell? ⟨b + 1, 1, none⟩ = some (.slice no acc.length nc)) := fun w g => by have := (HT1.out.kpn g).tb; simp [World.cell?, this]
        refine wp_region_held_drew (S := fun w' => True) (by kernel_rfl) (trivial) (fun hHeld => ?_)
        refine tk (i := 0) (v := ?v0b31) rfl (Or.inl ⟨by rfl, ?y0b31⟩) ?r0b31
        case y0b31 => (intro w hSw; go_simp; (try with_reducible rfl))
        try simp only [Act.put]; try simp only [lA]; try simp only [lB]; try simp only [lC]
        refine tk (i := 2) (v := ?v2b32) rfl (Or.inl ⟨by rfl, ?y2b32⟩) ?r2b32
        case y2b32 => (intro w hSw; go_simp; (try with_reducible rfl))
        try simp only [Act.put]; try simp only [lA]; try simp only [lB]; try simp only [lC]
        refine rd2 1 3 rfl rfl (fun Kc hK => ?_) fun Kc hK => ?_
        · have c1 := HC.out U1.drew (Gr.n p gr_drewP)
          go_simp
          clear c1
          refine hK.out _ _ trivial (fun hHeld => ?_)
          clear hK Kc
          try simp only [Act.put]; try simp only [lA]; try simp only [lB]; try simp only [lC]
          refine rd1 3 rfl fun Kc hK => ?_
          go_simp
          go_at_call 53
          refine Calls.mono HQ.out ?_
          rintro e' U2 ⟨hk, rfl, hR⟩
          have HK2 : Hid (KpN U1 U2 p) := KpN.tr (Gr.n p gr_drewP) hk
          have HR2 := hidP hR
          clear hk hR
          go_wp2_with fail
          refine hK.out _ _ trivial (fun hHeld => ?_)
          clear hK Kc
          try simp only [Act.put]; try simp only [lA]; try simp only [lB]; try simp only [lC]
          refine rd1 4 rfl fun Kc hK => ?_
          go_simp
          refine hK.out _ _ trivial (fun hHeld => ?_)
          clear hK Kc
          try simp only [Act.put]; try simp only [lA]; try simp only [lB]; try simp only [lC]
          refine rd1 5 rfl fun Kc hK => ?_
          have HA2 := hidP (HA1.out.kpn (by decide) HK2.out HLp.out)
          refine step_append_anyN _ rfl (.tmp 35) (.tmp 38) 25 25 rfl 70 (.agg #[.string ⟨#[]⟩, .string ⟨#[]⟩]) 2 32 Tryz.underlying25 info59 rfl _ acc.length (acc.flatMap ncel) rfl (HA2.out.own.alloc _) _ 1 [.string y0, .string y1] rfl (src59 U2 y0 y1) (by omega) (by omega) ?_
          intro v' w1 hown hgrow hblk
          obtain ⟨no', nc', rfl⟩ := own_formK hown
          have gA : Gr U2 (U2.alloc (.cells #[.string y0, .string y1] 70)) := gr_alloc U2 _
          have kA : Keeps U2 w1 (fun z => (Value.slice no acc.length nc).ownBlock = some z) := (gA.mono fun _ _ h => h.elim).trans (Keeps.ofGrown hgrow) (fun _ _ h => h)
          have hnew : ∀ z, (Value.slice no acc.length nc).ownBlock = some z → X.heap.size ≤ z := fun z h => HA2.out.new z h
          have hT2 := HT1.out.kpn HK2.out
          have hrb := (kA.block b (lt_of_heap hT2.rb) fun h => by have := hnew b h; have := HLo.out; have := HLX.out; omega).trans hT2.rb
          have htb := (kA.block (b + 1) (lt_of_heap hT2.tb) fun h => by have := hnew _ h; have := HLo.out; have := HLX.out; omega).trans hT2.tb
          have hR3 := HR2.out.kept kA fun z h => by obtain ⟨cs, hb⟩ := own_blk HA2.out.own h; have h1 := hnew z h; have h2 := HLp.out; exact ⟨by omega, by omega, IntsB.of hb (by decide)⟩
          have e1 : [x].flatMap ncel = [.string y0, .string y1] := by rw [Hy.out.1, Hy.out.2]; rfl
          have hA3 : LAt X w1 70 2 ncel (acc ++ [x]) no' nc' := ⟨by rw [List.length_append, List.flatMap_append, e1]; exact hown, fun q h => by rw [List.length_append] at h; exact hblk.elim (fun r => hnew q (r ▸ h)) (fun r => by have := r q h; have := gA.size; have := HK2.out.size; have := HX1.out.size; omega)⟩
          have hG3 : KpN W w1 p := (HG1.out.tr HK2.out).trans kA fun j hj h => by have := hnew j h; have := HLW.out; omega
          have hX3 : KX X w1 p (b + 1) := (HX1.out.tr HK2.out).trans kA fun j hj h => by have := hnew j h; omega
          have kS : Keeps w1 (w1.setCell ⟨b + 1, 1, none⟩ (.slice no' (acc.length + 1) nc')) (fun z => z = b + 1) := (Keeps.refl w1 (fun z => z = b + 1)).setCell (p := ⟨b + 1, 1, none⟩) (fun _ => rfl) _
          have hT3 : SB W w1 p b (b + 1) (.slice fo l.length fc) (.slice no acc.length nc) := ⟨hrb, htb, hT2.lt⟩
          have HT3 : Hid (SB W (w1.setCell ⟨b + 1, 1, none⟩ (.slice no' (acc.length + 1) nc')) p b (b + 1) (.slice fo l.length fc) (.slice no' (acc ++ [x]).length nc')) := ⟨(set_other _ (by omega)).trans hrb, by have := heap_setCell_same _ (b + 1) 1 _ _ (.slice no' (acc.length + 1) nc') htb; rw [List.length_append]; exact this, hT2.lt⟩
          have HR3 := hidP (hR3.kept kS fun z h => by rw [h]; exact hT3.cok)
          have HA3 := hidP (hA3.blk kS fun z h hz hS => by have := HLo.out; have := HLX.out; omega)
          have HG3 : Hid (KpN W (w1.setCell ⟨b + 1, 1, none⟩ (.slice no' (acc.length + 1) nc')) p) := hG3.trans kS fun z hz h => by have := hT2.lt; omega
          have HX3 : Hid (KX X (w1.setCell ⟨b + 1, 1, none⟩ (.slice no' (acc.length + 1) nc')) p (b + 1)) := hX3.trans kS fun z hz h => .inr (.inl h)
          have HM := hidP HR3.out.at
          have hp3 := HR3.out.pos
          have z1 := frz htb 1
          have q1 : w1.cell? ⟨b + 1, 1, none⟩ = some (.slice no acc.length nc) := by simp [World.cell?, htb]
          clear e1 hown hgrow hblk gA kA hnew hT2 hrb hR3 hA3 hG3 hX3 kS hT3 htb HA2
          refine hK.out _ _ trivial (fun hHeld => ?_)
          clear hK Kc
          try simp only [Act.put]; try simp only [lA]; try simp only [lB]; try simp only [lC]
          refine tk (i := 6) (v := ?v6c3x11) rfl (Or.inl ⟨by rfl, ?y6c3x11⟩) ?r6c3x11
          case y6c3x11 => (intro w hSw; go_simp; (try with_reducible rfl))
          try simp only [Act.put]; try simp only [lA]; try simp only [lB]; try simp only [lC]
          refine rd1 7 rfl fun Kc hK => ?_
          go_simp
          refine hK.out _ _ trivial (fun hHeld => ?_)
          clear hK Kc
          try simp only [Act.put]; try simp only [lA]; try simp only [lB]; try simp only [lC]
          refine wpAnyH_done (by kernel_rfl) ?_ _
          clear z1 q1 hHeld
          go_wp2_with fail
          go_roundw
          case rel => exact ⟨n, a3, g3, acc ++ [x], no', nc', hp3, by omega, by omega, by simp; omega, HT3.out, HA3.out, HR3.out, HG3.out, HX3.out, HS1.out⟩
          case measure =>
            have h1 := HM.out
            have h2 := Hm.out
            rw [h2]
            refine Nat.lt_of_le_of_lt (Nat.le_of_eq (congrArg (s.size - ·) h1)) ?_
            omega
        go_simp
        go_at_call 53
        refine Calls.mono HQ.out ?_
        rintro e' U2 ⟨hk, rfl, hR⟩
        have HK2 : Hid (KpN U1 U2 p) := KpN.tr (Gr.n p gr_drewP) hk
        have HR2 := hidP hR
        clear hk hR
        go_wp2_with fail
        refine hK.out _ _ trivial (fun hHeld => ?_)
        clear hK Kc
        try simp only [Act.put]; try simp only [lA]; try simp only [lB]; try simp only [lC]
        refine rd2 1 4 rfl rfl (fun Kc hK => ?_) fun Kc hK => ?_
        · have c1 := HC.out U2 (HK2.out)
          go_simp
          clear c1
          refine hK.out _ _ trivial (fun hHeld => ?_)
          clear hK Kc
          try simp only [Act.put]; try simp only [lA]; try simp only [lB]; try simp only [lC]
          refine rd1 4 rfl fun Kc hK => ?_
          go_simp
          refine hK.out _ _ trivial (fun hHeld => ?_)
          clear hK Kc
          try simp only [Act.put]; try simp only [lA]; try simp only [lB]; try simp only [lC]
          refine rd1 5 rfl fun Kc hK => ?_
          have HA2 := hidP (HA1.out.kpn (by decide) HK2.out HLp.out)
          refine step_append_anyN _ rfl (.tmp 35) (.tmp 38) 25 25 rfl 70 (.agg #[.string ⟨#[]⟩, .string ⟨#[]⟩]) 2 32 Tryz.underlying25 info59 rfl _ acc.length (acc.flatMap ncel) rfl (HA2.out.own.alloc _) _ 1 [.string y0, .string y1] rfl (src59 U2 y0 y1) (by omega) (by omega) ?_
          intro v' w1 hown hgrow hblk
          obtain ⟨no', nc', rfl⟩ := own_formK hown
          have gA : Gr U2 (U2.alloc (.cells #[.string y0, .string y1] 70)) := gr_alloc U2 _
          have kA : Keeps U2 w1 (fun z => (Value.slice no acc.length nc).ownBlock = some z) := (gA.mono fun _ _ h => h.elim).trans (Keeps.ofGrown hgrow) (fun _ _ h => h)
          have hnew : ∀ z, (Value.slice no acc.length nc).ownBlock = some z → X.heap.size ≤ z := fun z h => HA2.out.new z h
          have hT2 := HT1.out.kpn HK2.out
          have hrb := (kA.block b (lt_of_heap hT2.rb) fun h => by have := hnew b h; have := HLo.out; have := HLX.out; omega).trans hT2.rb
          have htb := (kA.block (b + 1) (lt_of_heap hT2.tb) fun h => by have := hnew _ h; have := HLo.out; have := HLX.out; omega).trans hT2.tb
          have hR3 := HR2.out.kept kA fun z h => by obtain ⟨cs, hb⟩ := own_blk HA2.out.own h; have h1 := hnew z h; have h2 := HLp.out; exact ⟨by omega, by omega, IntsB.of hb (by decide)⟩
          have e1 : [x].flatMap ncel = [.string y0, .string y1] := by rw [Hy.out.1, Hy.out.2]; rfl
          have hA3 : LAt X w1 70 2 ncel (acc ++ [x]) no' nc' := ⟨by rw [List.length_append, List.flatMap_append, e1]; exact hown, fun q h => by rw [List.length_append] at h; exact hblk.elim (fun r => hnew q (r ▸ h)) (fun r => by have := r q h; have := gA.size; have := HK2.out.size; have := HX1.out.size; omega)⟩
          have hG3 : KpN W w1 p := (HG1.out.tr HK2.out).trans kA fun j hj h => by have := hnew j h; have := HLW.out; omega
          have hX3 : KX X w1 p (b + 1) := (HX1.out.tr HK2.out).trans kA fun j hj h => by have := hnew j h; omega
          have kS : Keeps w1 (w1.setCell ⟨b + 1, 1, none⟩ (.slice no' (acc.length + 1) nc')) (fun z => z = b + 1) := (Keeps.refl w1 (fun z => z = b + 1)).setCell (p := ⟨b + 1, 1, none⟩) (fun _ => rfl) _
          have hT3 : SB W w1 p b (b + 1) (.slice fo l.length fc) (.slice no acc.length nc) := ⟨hrb, htb, hT2.lt⟩
          have HT3 : Hid (SB W (w1.setCell ⟨b + 1, 1, none⟩ (.slice no' (acc.length + 1) nc')) p b (b + 1) (.slice fo l.length fc) (.slice no' (acc ++ [x]).length nc')) := ⟨(set_other _ (by omega)).trans hrb, by have := heap_setCell_same _ (b + 1) 1 _ _ (.slice no' (acc.length + 1) nc') htb; rw [List.length_append]; exact this, hT2.lt⟩
          have HR3 := hidP (hR3.kept kS fun z h => by rw [h]; exact hT3.cok)
          have HA3 := hidP (hA3.blk kS fun z h hz hS => by have := HLo.out; have := HLX.out; omega)
          have HG3 : Hid (KpN W (w1.setCell ⟨b + 1, 1, none⟩ (.slice no' (acc.length + 1) nc')) p) := hG3.trans kS fun z hz h => by have := hT2.lt; omega
          have HX3 : Hid (KX X (w1.setCell ⟨b + 1, 1, none⟩ (.slice no' (acc.length + 1) nc')) p (b + 1)) := hX3.trans kS fun z hz h => .inr (.inl h)
          have HM := hidP HR3.out.at
          have hp3 := HR3.out.pos
          have z1 := frz htb 1
          have q1 : w1.cell? ⟨b + 1, 1, none⟩ = some (.slice no acc.length nc) := by simp [World.cell?, htb]
          clear e1 hown hgrow hblk gA kA hnew hT2 hrb hR3 hA3 hG3 hX3 kS hT3 htb HA2
          refine hK.out _ _ trivial (fun hHeld => ?_)
          clear hK Kc
          try simp only [Act.put]; try simp only [lA]; try simp only [lB]; try simp only [lC]
          refine tk (i := 6) (v := ?v6c3x21) rfl (Or.inl ⟨by rfl, ?y6c3x21⟩) ?r6c3x21
          case y6c3x21 => (intro w hSw; go_simp; (try with_reducible rfl))
          try simp only [Act.put]; try simp only [lA]; try simp only [lB]; try simp only [lC]
          refine rd1 7 rfl fun Kc hK => ?_
          go_simp
          refine hK.out _ _ trivial (fun hHeld => ?_)
          clear hK Kc
          try simp only [Act.put]; try simp only [lA]; try simp only [lB]; try simp only [lC]
          refine wpAnyH_done (by kernel_rfl) ?_ _
          clear z1 q1 hHeld
          go_wp2_with fail
          go_roundw
          case rel => exact ⟨n, a3, g3, acc ++ [x], no', nc', hp3, by omega, by omega, by simp; omega, HT3.out, HA3.out, HR3.out, HG3.out, HX3.out, HS1.out⟩
          case measure =>
            have h1 := HM.out
            have h2 := Hm.out
            rw [h2]
            refine Nat.lt_of_le_of_lt (Nat.le_of_eq (congrArg (s.size - ·) h1)) ?_
            omega
        go_simp
        refine hK.out _ _ trivial (fun hHeld => ?_)
        clear hK Kc
        try simp only [Act.put]; try simp only [lA]; try simp only [lB]; try simp only [lC]
        refine rd1 1 rfl fun Kc hK => ?_
        have c1 := HC.out _ (HK2.out.tr (Gr.n p (gr_alloc U2 (.cells #[.string y0, .string y1] 70))))
        go_simp
        clear c1
        refine hK.out _ _ trivial (fun hHeld => ?_)
        clear hK Kc
        try simp only [Act.put]; try simp only [lA]; try simp only [lB]; try simp only [lC]
        refine rd1 5 rfl fun Kc hK => ?_
        have HA2 := hidP (HA1.out.kpn (by decide) HK2.out HLp.out)
        refine step_append_anyN _ rfl (.tmp 35) (.tmp 38) 25 25 rfl 70 (.agg #[.string ⟨#[]⟩, .string ⟨#[]⟩]) 2 32 Tryz.underlying25 info59 rfl _ acc.length (acc.flatMap ncel) rfl (HA2.out.own.alloc _) _ 1 [.string y0, .string y1] rfl (src59 U2 y0 y1) (by omega) (by omega) ?_
        intro v' w1 hown hgrow hblk
        obtain ⟨no', nc', rfl⟩ := own_formK hown
        have gA : Gr U2 (U2.alloc (.cells #[.string y0, .string y1] 70)) := gr_alloc U2 _
        have kA : Keeps U2 w1 (fun z => (Value.slice no acc.length nc).ownBlock = some z) := (gA.mono fun _ _ h => h.elim).trans (Keeps.ofGrown hgrow) (fun _ _ h => h)
        have hnew : ∀ z, (Value.slice no acc.length nc).ownBlock = some z → X.heap.size ≤ z := fun z h => HA2.out.new z h
        have hT2 := HT1.out.kpn HK2.out
        have hrb := (kA.block b (lt_of_heap hT2.rb) fun h => by have := hnew b h; have := HLo.out; have := HLX.out; omega).trans hT2.rb
        have htb := (kA.block (b + 1) (lt_of_heap hT2.tb) fun h => by have := hnew _ h; have := HLo.out; have := HLX.out; omega).trans hT2.tb
        have hR3 := HR2.out.kept kA fun z h => by obtain ⟨cs, hb⟩ := own_blk HA2.out.own h; have h1 := hnew z h; have h2 := HLp.out; exact ⟨by omega, by omega, IntsB.of hb (by decide)⟩
        have e1 : [x].flatMap ncel = [.string y0, .string y1] := by rw [Hy.out.1, Hy.out.2]; rfl
        have hA3 : LAt X w1 70 2 ncel (acc ++ [x]) no' nc' := ⟨by rw [List.length_append, List.flatMap_append, e1]; exact hown, fun q h => by rw [List.length_append] at h; exact hblk.elim (fun r => hnew q (r ▸ h)) (fun r => by have := r q h; have := gA.size; have := HK2.out.size; have := HX1.out.size; omega)⟩
        have hG3 : KpN W w1 p := (HG1.out.tr HK2.out).trans kA fun j hj h => by have := hnew j h; have := HLW.out; omega
        have hX3 : KX X w1 p (b + 1) := (HX1.out.tr HK2.out).trans kA fun j hj h => by have := hnew j h; omega
        have kS : Keeps w1 (w1.setCell ⟨b + 1, 1, none⟩ (.slice no' (acc.length + 1) nc')) (fun z => z = b + 1) := (Keeps.refl w1 (fun z => z = b + 1)).setCell (p := ⟨b + 1, 1, none⟩) (fun _ => rfl) _
        have hT3 : SB W w1 p b (b + 1) (.slice fo l.length fc) (.slice no acc.length nc) := ⟨hrb, htb, hT2.lt⟩
        have HT3 : Hid (SB W (w1.setCell ⟨b + 1, 1, none⟩ (.slice no' (acc.length + 1) nc')) p b (b + 1) (.slice fo l.length fc) (.slice no' (acc ++ [x]).length nc')) := ⟨(set_other _ (by omega)).trans hrb, by have := heap_setCell_same _ (b + 1) 1 _ _ (.slice no' (acc.length + 1) nc') htb; rw [List.length_append]; exact this, hT2.lt⟩
        have HR3 := hidP (hR3.kept kS fun z h => by rw [h]; exact hT3.cok)
        have HA3 := hidP (hA3.blk kS fun z h hz hS => by have := HLo.out; have := HLX.out; omega)
        have HG3 : Hid (KpN W (w1.setCell ⟨b + 1, 1, none⟩ (.slice no' (acc.length + 1) nc')) p) := hG3.trans kS fun z hz h => by have := hT2.lt; omega
        have HX3 : Hid (KX X (w1.setCell ⟨b + 1, 1, none⟩ (.slice no' (acc.length + 1) nc')) p (b + 1)) := hX3.trans kS fun z hz h => .inr (.inl h)
        have HM := hidP HR3.out.at
        have hp3 := HR3.out.pos
        have z1 := frz htb 1
        have q1 : w1.cell? ⟨b + 1, 1, none⟩ = some (.slice no acc.length nc) := by simp [World.cell?, htb]
        clear e1 hown hgrow hblk gA kA hnew hT2 hrb hR3 hA3 hG3 hX3 kS hT3 htb HA2
        refine hK.out _ _ trivial (fun hHeld => ?_)
        clear hK Kc
        try simp only [Act.put]; try simp only [lA]; try simp only [lB]; try simp only [lC]
        refine tk (i := 6) (v := ?v6c3x31) rfl (Or.inl ⟨by rfl, ?y6c3x31⟩) ?r6c3x31
        case y6c3x31 => (intro w hSw; go_simp; (try with_reducible rfl))
        try simp only [Act.put]; try simp only [lA]; try simp only [lB]; try simp only [lC]
        refine rd1 7 rfl fun Kc hK => ?_
        go_simp
        refine hK.out _ _ trivial (fun hHeld => ?_)
        clear hK Kc
        try simp only [Act.put]; try simp only [lA]; try simp only [lB]; try simp only [lC]
        refine wpAnyH_done (by kernel_rfl) ?_ _
        clear z1 q1 hHeld
        go_wp2_with fail
        go_roundw
        case rel => exact ⟨n, a3, g3, acc ++ [x], no', nc', hp3, by omega, by omega, by simp; omega, HT3.out, HA3.out, HR3.out, HG3.out, HX3.out, HS1.out⟩
        case measure =>
          have h1 := HM.out
          have h2 := Hm.out
          rw [h2]
          refine Nat.lt_of_le_of_lt (Nat.le_of_eq (congrArg (s.size - ·) h1)) ?_
          omega
      rw [hr] at hq
      have HQ := hidP hq
      have HE : Hid (R = .ok ((l, acc), (a2, g))) := by show R = _; rw [← HS.out]; exact Pr.bind_ok (com_end hr)
      clear hq hr
      go_wp2_with (go_at_call 52; refine Hid.out ?_)
      unfold Hid
      refine Calls.mono HQ.out ?_
      rintro e' U9 ⟨hk, v, rfl, rfl, hR⟩
      replace HT := hidP (HT.out.kpn hk)
      replace HG := hidP (HG.out.tr hk)
      replace HX := hidP (HX.out.tr hk)
      replace HA := hidP (HA.out.kpn (by decide) hk HLp.out)
      replace HR := hidP hR
      clear hk hR HQ HS
      have u0 := frz HT.out.rb 0
      have v0 : U9.cell? ⟨b, 0, none⟩ = some (.slice none 0 0) := by simp [World.cell?, HT.out.rb]
      have u1 := frz HT.out.rb 1
      have v1 : U9.cell? ⟨b, 1, none⟩ = some (.slice none 0 0) := by simp [World.cell?, HT.out.rb]
      have s0 : U9.cell? ⟨b + 1, 0, none⟩ = some (.slice fo l.length fc) := by simp [World.cell?, HT.out.tb]
      have s1 : U9.cell? ⟨b + 1, 1, none⟩ = some (.slice no acc.length nc) := by simp [World.cell?, HT.out.tb]
      go_wp2_with fail
      have hb3 := put2_box (.slice fo l.length fc) (.slice no acc.length nc) HT.out.rb
      have k3 := put2_keeps U9 b (.slice fo l.length fc) (.slice no acc.length nc)
      have kW : KpN W _ p := HG.out.trans k3 fun z hz h => by have := HT.out.lt; omega
      have hrow := (HKr.out.2.nb (fun z hz => (k3.block z (Nat.lt_of_lt_of_le hz.2.1 HX.out.size) (by have := hz.1; have := HLo.out; omega)).trans (HX.out.block z hz.2.1 fun h => by have := hz.1; have := HLo.out; exact h.elim (fun h => by omega) fun h => h.elim (fun h => by omega) hz.2.2)) (Nat.le_trans HX.out.size k3.size)).low HLw.out
      (try simp only [Exit.inBlock, Exit.then])
      exact bodyPost_ret (results_cell26 rfl rfl hb3 (by kernel_rfl)) rfl (PnQ.ok kW HE.out ⟨fo, fc, no, nc, rfl, HKr.out.1, hrow, (HA.out.blk k3 fun z h hz hS => by have := HLo.out; have := HLX.out; omega).low HLW.out⟩ (HR.out.kept k3 fun z h => by rw [h]; exact HT.out.bok))
  rw [hr] at hq
  refine Calls.mono hq ?_
  rintro e' U9 ⟨hk, v, rfl, rfl, hR⟩
  have HE : Hid (R = .ok ((l, []), (aT, gX))) := by show R = _; rw [HS.out]; exact Pr.bind_ok hr
  have HT := hidP (HTX.out.kpn hk)
  have HG := hidP (HGX.out.tr hk)
  have HX := hidP ((KX.refl X p (b + 1)).tr hk)
  have HR := hidP hR
  clear hk hq hr hR
  have u0 := frz HT.out.rb 0
  have v0 : U9.cell? ⟨b, 0, none⟩ = some (.slice none 0 0) := by simp [World.cell?, HT.out.rb]
  have u1 := frz HT.out.rb 1
  have v1 : U9.cell? ⟨b, 1, none⟩ = some (.slice none 0 0) := by simp [World.cell?, HT.out.rb]
  have s0 : U9.cell? ⟨b + 1, 0, none⟩ = some (.slice fo l.length fc) := by simp [World.cell?, HT.out.tb]
  have s1 : U9.cell? ⟨b + 1, 1, none⟩ = some (.slice none 0 0) := by simp [World.cell?, HT.out.tb]
  go_wp2_with fail
  have hb3 := put2_box (.slice fo l.length fc) (.slice none 0 0) HT.out.rb
  have k3 := put2_keeps U9 b (.slice fo l.length fc) (.slice none 0 0)
  have kW : KpN W _ p := HG.out.trans k3 fun z hz h => by have := HT.out.lt; omega
  have hrow := (HKr.out.2.nb (fun z hz => (k3.block z (Nat.lt_of_lt_of_le hz.2.1 HX.out.size) (by have := hz.1; have := HLo.out; omega)).trans (HX.out.block z hz.2.1 fun h => by have := hz.1; have := HLo.out; exact h.elim (fun h => by omega) fun h => h.elim (fun h => by omega) hz.2.2)) (Nat.le_trans HX.out.size k3.size)).low HLw.out
  (try simp only [Exit.inBlock, Exit.then])
  exact bodyPost_ret (results_cell26 rfl rfl hb3 (by kernel_rfl)) rfl (PnQ.ok kW HE.out ⟨fo, fc, none, 0, rfl, HKr.out.1, hrow, LAt.nil _ _ _ _ _⟩ (HR.out.kept k3 fun z h => by rw [h]; exact HT.out.bok))
end Go.Proofs.YtkodgneneiledaaGreatDoor.Kit
