import Derived.Test.YtdihbfjjddmbiaaGreatDoorXD
import Derived.Test.YtdihbfjjddmbiaaGreatDoorRL
set_option maxRecDepth 100000
set_option maxHeartbeats 4000000
namespace Go.Proofs.YtdihbfjjddmbiaaGreatDoor.Kit
open Go.RowKit Go.Shelf Go.Deep
set_option linter.unusedVariables false
theorem field30_all (p : Nat) (bo : Option Addr) (B : List UInt8) (bc : Nat) : ∀ d : Nat, d ≤ 64 → DCg p bo B bc 59 #[.pointer (some ⟨p, 0, none⟩), .int .i64 (64 - (d : Int))] (fieldX B d) (FV d)
  | 0, _ => fun W s h hg => field30_no p bo B bc 0 0 _ W s h hg (.inr (.inr (by omega))) _ (by rw [fieldX])
  | d + 1, hd => fun W s h hg => by
    by_cases he : s.e = 0
    · by_cases hgl : s.g = 256
      · exact field30_no p bo B bc (d + 1) 0 _ W s h hg (.inr (.inl hgl)) _ (by rw [fieldX, if_neg (by simp [he]), if_pos hgl, if_neg (by simp [he])])
      have ih := field30_all p bo B bc d (by omega)
      have e : (64 : Int) - (d : Int) = 64 - ((d + 1 : Nat) : Int) + 1 := by omega
      rw [e] at ih
      exact field30_yes p bo B bc d _ (by omega) (by omega) ih W s h hg he hgl _ (by rw [fieldX, if_neg (by simp [he]), if_neg hgl])
    exact field30_no p bo B bc (d + 1) 0 _ W s h hg (.inl he) _ (by rw [fieldX, if_pos he, if_pos he])
end Go.Proofs.YtdihbfjjddmbiaaGreatDoor.Kit
namespace Go.Proofs.YtdihbfjjddmbiaaGreatDoor.Kit
open Go.RowKit Go.Shelf Go.Deep
set_option linter.unusedVariables false
attribute [local go_sem] run_store_func
def noteX (B : List UInt8) (s : DS) : (ByteArray × ByteArray) × DS := (((textX B 2 s).1, (textX B 2 (textX B 2 s).2).1), (textX B 2 (textX B 2 s).2).2)
def schX (B : List UInt8) (s : DS) : (List FT × List (ByteArray × ByteArray)) × DS :=
  let n := numX B 2 s
  let l := sevX (fieldX B 64) n.1 [] n.2
  let m := numX B 2 l.2
  let k := sevX (noteX B) m.1 [] m.2
  ((l.1, k.1), k.2)
theorem numX_bad {B : List UInt8} {k : Nat} {s : DS} (h : s.e ≠ 0) : numX B k s = (0, s) := by
  unfold numX takeX
  rw [if_pos h]
  rfl
theorem Gd.note {B : List UInt8} {s : DS} (h : Gd s) : Gd (noteX B s).2 := h.text.text
structure SB2 (W U : World) (p b : Nat) (x0 x1 : Value) : Prop where
  rb : U.heap[b]? = some (.cells #[.slice none 0 0, .slice none 0 0] 25 (0, 0))
  tb : U.heap[b + 1]? = some (.cells #[x0, x1] 25 (0, 0))
  lt : W.heap.size ≤ b ∧ p < W.heap.size
theorem SB2.kp {W U U' : World} {p b : Nat} {x0 x1 : Value} (h : SB2 W U p b x0 x1) (q : Keeps U U' (fun z => z = p)) : SB2 W U' p b x0 x1 :=
  ⟨(q.block b (lt_of_heap h.rb) (by have := h.lt; omega)).trans h.rb, (q.block (b + 1) (lt_of_heap h.tb) (by have := h.lt; omega)).trans h.tb, h.lt⟩
theorem SB2.set {W U : World} {p b : Nat} {x0 x1 y0 y1 : Value} (h : SB2 W U p b x0 x1) (i : Nat) (v : Value) (e : (#[x0, x1] : Array Value).setIfInBounds i v = #[y0, y1]) : SB2 W (U.setCell ⟨b + 1, i, none⟩ v) p b y0 y1 := by
  refine ⟨?_, ?_, h.lt⟩
  · exact (((Keeps.refl U (fun z => z = b + 1)).setCell (p := ⟨b + 1, i, none⟩) (fun _ => rfl) v).block b (lt_of_heap h.rb) (by omega)).trans h.rb
  rw [heap_setCell_same U (b + 1) i _ _ v h.tb, e]
def SVx (W w' : World) (x : List FT × List (ByteArray × ByteArray)) (v : Value) : Prop := ∃ fo fc no nc, v = .agg #[.slice fo x.1.length fc, .slice no x.2.length nc] ∧ x.1.length ≤ fc ∧ RowI W.heap.size w'.heap.size w' 65 fo fc x.1 ∧ LAt W w' 55 2 (fun x : ByteArray × ByteArray => [Value.string x.1, .string x.2]) x.2 no nc
theorem LAt.kp2 {α : Type} {W V U U' : World} {t s : Nat} {c : α → List Value} {l : List α} {vo : Option Addr} {vc : Nat} {S : Nat → Prop} (h : LAt V U t s c l vo vc) (k : Keeps U U' S) (hS : ∀ z, S z → z < V.heap.size) (hW : W.heap.size ≤ V.heap.size) : LAt W U' t s c l vo vc :=
  ⟨row_kp h.own fun g e => k.block g (own_lt h.own g e) (fun q => by have := hS g q; have := h.new g e; omega), fun g e => Nat.le_trans hW (h.new g e)⟩
theorem schema16 (p : Nat) (bo : Option Addr) (B : List UInt8) (bc : Nat) : DCg p bo B bc 42 #[.pointer (some ⟨p, 0, none⟩)] (schX B) SVx := by
  intro W s h hg
  obtain ⟨r, hr⟩ : ∃ r, r = schX B s := ⟨_, rfl⟩
  rw [← hr]
  obtain ⟨V, hV⟩ := ex ((W.alloc (.cells #[.slice none 0 0, .slice none 0 0] 25)).alloc (.cells #[.slice none 0 0, .slice none 0 0] 25))
  obtain ⟨b, hb⟩ : ∃ b, b = W.heap.size := ⟨_, rfl⟩
  have s1 : (W.alloc (.cells #[.slice none 0 0, .slice none 0 0] 25)).heap.size = b + 1 := by rw [hb]; simp
  have g1 := gr_alloc W (.cells #[.slice none 0 0, .slice none 0 0] 25)
  have g2 := gr_alloc (W.alloc (.cells #[.slice none 0 0, .slice none 0 0] 25)) (.cells #[.slice none 0 0, .slice none 0 0] 25)
  have c1 := heap_alloc_new W (.cells #[.slice none 0 0, .slice none 0 0] 25)
  have c2 := heap_alloc_new (W.alloc (.cells #[.slice none 0 0, .slice none 0 0] 25)) (.cells #[.slice none 0 0, .slice none 0 0] 25)
  rw [← hb] at c1
  rw [s1] at c2
  have g12 := g1.tr g2
  rw [hV] at g2 g12 c2
  have hB0 : SB2 W V p b (.slice none 0 0) (.slice none 0 0) := ⟨(g2.block b (lt_of_heap c1) id).trans c1, c2, by omega, h.lt⟩
  have hD0 := h.gr g12
  have HG0 : Hid (Keeps W V (fun z => z = p)) := g12.mono fun _ _ h => h.elim
  have HW0 := hidM h
  have HB0 := hidM hB0
  have HD0 := hidM hD0
  have HVb : Hid (V.heap.size = b + 1 + 1 ∧ b = W.heap.size ∧ p < W.heap.size) := ⟨by rw [← hV, hb]; simp, hb, h.lt⟩
  have Hb := hidM hb
  have HV := hidM hV
  have hih := field30_all p bo B bc 64 (Nat.le_refl _)
  have Hih : Hid (DCg p bo B bc 59 #[.pointer (some ⟨p, 0, none⟩), .int .i64 0] (fieldX B 64) (FV 64)) := hih
  obtain ⟨⟨n1, s2⟩, hq1⟩ : ∃ q, numX B 2 s = q := ⟨_, rfl⟩
  obtain ⟨RL, hRL⟩ := ex (sevX (fieldX B 64) n1 [] s2)
  have hn1 : n1 < 4294967296 := by have := numX_lt B 2 (by omega) s; rw [hq1] at this; exact this
  have hg2 : Gd s2 := by have := hg.num (B := B) (n := 2); rw [hq1] at this; exact this
  have hr2 : r = ((RL.1, (sevX (noteX B) (numX B 2 RL.2).1 [] (numX B 2 RL.2).2).1), (sevX (noteX B) (numX B 2 RL.2).1 [] (numX B 2 RL.2).2).2) := by
    rw [hr]
    unfold schX
    dsimp only
    rw [hq1]
    dsimp only
    rw [hRL]
  have HRr := hidM hr2
  have Hq1 := hidM hq1
  have HRL := hidM hRL
  have Hg2 := hidM hg2
  clear h hg hr hr2 hb s1 g1 g2 c1 c2 g12 hB0 hD0 hq1 hRL hg2 hih hV
  go_enter Tryz.func42, Tryz.ntmps42
  go_wp2_with (go_at_call 43; refine Hid.out ?_)
  unfold Hid
  rw [HV.out, ← Hb.out]
  clear HV
  have hc := number17 p bo B bc 2 (by omega) V s HD0.out
  rw [Hq1.out] at hc
  dsimp only at hc
  refine Calls.mono hc ?_
  rintro e Y1 ⟨v, rfl, rfl, hD, hK⟩
  have HB1 := hidM (HB0.out.kp hK)
  have HG1 := hidM (HG0.out.tr hK)
  have HD1 := hidM hD
  have HS0 : Hid (sevX (fieldX B 64) (n1 - 0) (([] : List FE).map (·.1)) s2 = RL) := HRL.out
  clear hc hD hK HD0 HB0 HG0
  go_wp2
  go_loopw [5] (fun i wr => ∃ (k : Nat) (acc : List FE) (σ : DS) (vo : Option Addr) (vc : Nat), k ≤ n1 ∧ i = .int .i64 (k : Int) ∧ Hid (acc.length = k) ∧ Hid (FL V wr 64 acc vo vc) ∧ Hid (SB2 W wr p b (.slice vo k vc) (.slice none 0 0)) ∧ Hid (DAt wr p bo B bc σ) ∧ Hid (Keeps W wr (fun z => z = p)) ∧ Hid (Gd σ) ∧ Hid (sevX (fieldX B 64) (n1 - k) (acc.map (·.1)) σ = RL)) (fun i _ => n1 - (intOf i).toNat)
  case atStart => exact ⟨0, [], s2, none, 0, Nat.zero_le _, rfl, rfl, FL.nil _ _ _, HB1.out, HD1.out, HG1.out, Hg2.out, HS0.out⟩
  case round =>
    obtain ⟨k, acc, σ, vo, vc, hk, rfl, HL, HA, HBw, HDw, HGw, Hgd, HS⟩ := hrel
    have hkb : k ≤ 4294967296 := by omega
    obtain ⟨m0, m1, m2, m3, m4, m5⟩ := HDw.out.cells
    by_cases hlt : k < n1
    · have hltI : (k : Int) < (n1 : Int) := by omega
      by_cases he : σ.e = 0
      · rw [he] at m3
        obtain ⟨⟨x, σ'⟩, hqx⟩ : ∃ q, fieldX B 64 σ = q := ⟨_, rfl⟩
        have HS1 : Hid (sevX (fieldX B 64) (n1 - (k + 1)) (acc.map (·.1) ++ [x]) σ' = RL) := (sevX_next hlt he hqx).symm.trans HS.out
        have hgd' := Gd.field (B := B) 64 σ Hgd.out
        have hc := Hih.out wr σ HDw.out Hgd.out
        rw [hqx] at hc hgd'
        dsimp only at hc hgd'
        have Hc := hidM hc
        have Hgd2 := hidM hgd'
        clear hc hgd' hqx he
        go_wp2_with (go_at_call 59; refine Hid.out ?_)
        unfold Hid
        refine Calls.mono Hc.out ?_
        rintro e Y ⟨v, rfl, ⟨ko, kc, rfl, hkc, hrow⟩, hD, hK⟩
        obtain ⟨Y2, hY2⟩ := ex (Y.alloc (.cells #[.string x.name, .bool x.nul, .int .i64 x.kind, .int .i64 x.width, .int .i64 x.id, .int .i64 x.index, .slice ko x.kids.length kc] 52))
        have gY := gr_al hY2
        have hnb := heap_alloc_new Y (.cells #[.string x.name, .bool x.nul, .int .i64 x.kind, .int .i64 x.width, .int .i64 x.id, .int .i64 x.index, .slice ko x.kids.length kc] 52)
        rw [hY2] at hnb
        have kY : Keeps wr Y2 (fun z => z = p) := hK.tr (gY.mono fun _ _ h => h.elim)
        have hVb := HVb.out
        have HA1 := hidM (HA.out.kp2 kY (by omega))
        have hB1 := HBw.out.kp kY
        have HB1 := hidM hB1
        have HG1 := hidM (HGw.out.tr kY)
        have HD1 := hidM (hD.gr gY)
        have HKd := hidM (And.intro hkc ((hrow.kept fun z z1 z2 => gY.block z z2 id).wide (Nat.le_refl _) gY.size))
        have HWs := hidM (And.intro (show V.heap.size ≤ wr.heap.size by have := lt_of_heap HBw.out.tb; omega) kY.size)
        have HSr := hidM (src80 Y2 x ko kc)
        have HO : Hid ((Y2.alloc (.cells #[.string x.name, .bool x.nul, .int .i64 x.kind, .int .i64 x.width, .int .i64 x.id, .int .i64 x.index, .slice ko x.kids.length kc] 52)).ownsRow 0 52 7 (.slice vo k vc) k (acc.flatMap fcel)) := by have := HA1.out.row.own.alloc (.cells #[.string x.name, .bool x.nul, .int .i64 x.kind, .int .i64 x.width, .int .i64 x.id, .int .i64 x.index, .slice ko x.kids.length kc] 52); rwa [HL.out] at this
        have z6 : Y2.cell? ⟨b + 1, 0, none⟩ = some (.slice vo k vc) := by simp [World.cell?, hB1.tb]
        obtain ⟨u0, u1, u2, u3, u4, u5, u6⟩ := ce7 hnb
        clear gY hnb kY hB1 hD hK hkc hrow m0 m1 m2 m3 m4 m5 Hc HS hVb
        go_wp2_with (with_reducible show wpList Tryz.prog _ _ (Oper.mk (some 29) _ _ _ _ _ :: _) _ _; refine Hid.out ?_)
        unfold Hid
        refine wpList_append_anyN (P := Tryz.prog) _ rfl (.tmp 26) (.tmp 28) 22 22 rfl 52 (.agg #[.string ⟨#[]⟩, .bool false, .int .i64 0, .int .i64 0, .int .i64 0, .int .i64 0, .slice none 0 0]) 7 80 Tryz.underlying22 info80 rfl _ _ _ rfl HO.out _ _ _ rfl HSr.out (by omega) (by omega) ?_
        refine Hid.out ?_
        unfold Hid
        intro v' w1 hown hgrow hblk
        obtain ⟨vo', vc', rfl⟩ := own_formK hown
        have hVb := HVb.out
        have kA : Keeps Y2 w1 (fun z => (Value.slice vo k vc).ownBlock = some z) := ((gr_alloc Y2 _).mono fun _ _ h => h.elim).tr (Keeps.ofGrown hgrow)
        have hnew : ∀ g, (Value.slice vo k vc).ownBlock = some g → V.heap.size ≤ g := fun g e => HA1.out.row.new g (by rw [HL.out]; exact e)
        have kW : Keeps W w1 (fun z => z = p) := HG1.out.trans kA (fun j hj h => by have := hnew j h; omega)
        have hB2 : SB2 W w1 p b (.slice vo k vc) (.slice none 0 0) := ⟨(kA.block b (lt_of_heap HB1.out.rb) (fun h => by have := hnew b h; omega)).trans HB1.out.rb, (kA.block (b + 1) (lt_of_heap HB1.out.tb) (fun h => by have := hnew (b + 1) h; omega)).trans HB1.out.tb, HB1.out.lt⟩
        have hA2 := FL.push HWs.out.1 HWs.out.2 HA.out HA1.out HL.out HKd.out.1 HKd.out.2 hown hgrow hblk
        obtain ⟨w2, hw2⟩ := ex (w1.setCell ⟨b + 1, 0, none⟩ (.slice vo' (k + 1) vc'))
        have k12 : Keeps w1 w2 (fun z => z = b + 1) := by rw [← hw2]; exact (Keeps.refl w1 (fun z => z = b + 1)).setCell (p := ⟨b + 1, 0, none⟩) (fun _ => rfl) _
        have hB3 := hB2.set (y0 := .slice vo' (k + 1) vc') (y1 := .slice none 0 0) 0 (.slice vo' (k + 1) vc') rfl
        rw [hw2] at hB3
        have kW2 : Keeps W w2 (fun z => z = p) := kW.trans k12 fun j hj e => by omega
        have HD3 := hidM (DAt.over HW0.out HD1.out kW2 ((k12.block p (Nat.lt_of_lt_of_le HD1.out.lt kA.size) (by omega)).trans (kA.block p HD1.out.lt (fun h => by have := hnew p h; omega))))
        have HB3' := hidM hB3
        have HG3 := hidM kW2
        have HA3 := hidM (hA2.kp k12 (by omega))
        have HL2 : Hid ((acc ++ [(x, ko, kc)]).length = k + 1) := by show _ = _; rw [List.length_append, HL.out]; rfl
        have HS2 : Hid (sevX (fieldX B 64) (n1 - (k + 1)) ((acc ++ [(x, ko, kc)]).map (·.1)) σ' = RL) := by show _ = _; rw [List.map_append]; exact HS1.out
        have t6 : w1.cell? ⟨b + 1, 0, none⟩ = some (.slice vo k vc) := by simp [World.cell?, hB2.tb]
        have q6 := frz hB2.tb 0
        clear hown hgrow hblk kA hnew kW hB2 hA2 k12 hB3 kW2 HO HSr HA1 HA HKd HWs hVb hY2 z6 u0 u1 u2 u3 u4 u5 u6
        go_wp2_with fail
        go_roundw
        case rel => exact ⟨k + 1, acc ++ [(x, ko, kc)], σ', vo', vc', by omega, by simp, HL2.out, HA3.out, HB3'.out, HD3.out, HG3.out, Hgd2.out, HS2.out⟩
        case measure => simp [intOf]; omega
      have he' : (σ.e == 0) = false := by simp [he]
      have HRf : Hid (r = ((acc.map (·.1), []), σ)) := by
        have h1 : RL = (acc.map (·.1), σ) := HS.out.symm.trans (sevX_stop he)
        show _ = _
        rw [HRr.out, h1]
        dsimp only
        rw [numX_bad he]
        rfl
      have Hend : Hid (∀ X, Keeps wr X (fun z => z = b) → SVx W X (acc.map (·.1), []) (.agg #[.slice vo k vc, .slice none 0 0])) := fun X kX => by
        have hrow := HA.out.rowAt (by rw [HL.out]; show _ ≤ 1000000000000; omega)
        have hVb := HVb.out
        refine ⟨vo, vc, none, 0, ?_, by show (acc.map (·.1)).length ≤ vc; rw [List.length_map]; exact hrow.1, (hrow.2.kept fun z z1 z2 => kX.block z z2 (by omega)).wide (by omega) kX.size, LAt.nil _ _ _ _ _⟩
        show _ = Value.agg #[.slice vo (acc.map (·.1)).length vc, .slice none 0 0]
        rw [List.length_map, HL.out]
      clear he
      obtain ⟨r0, r1⟩ := ce2 HBw.out.rb
      obtain ⟨q0, q1⟩ := fz2 HBw.out.rb
      obtain ⟨t0, t1⟩ := ce2 HBw.out.tb
      have hE1 := put2_box (.slice vo k vc) (.slice none 0 0) HBw.out.rb
      have hE2 := put2_keeps wr b (.slice vo k vc) (.slice none 0 0)
      obtain ⟨X, hX⟩ := ex (((wr.setCell ⟨b, 0, none⟩ (.slice vo k vc)).setCell ⟨b, 1, none⟩ (.slice none 0 0)))
      rw [hX] at hE1 hE2
      have HE1 := hidM hE1
      have HE2 := hidM hE2
      clear hE1 hE2
      go_wp2_with fail
      have kX : Keeps W X (fun z => z = p) := HGw.out.trans HE2.out fun j hj e => by have := HVb.out; omega
      have dX := DAt.over HW0.out HDw.out kX (HE2.out.block p HDw.out.lt (by have := HVb.out; omega))
      (try simp only [Exit.inBlock, Exit.then])
      refine bodyPost_ret (results_cell26 rfl rfl HE1.out (by kernel_rfl)) rfl ?_
      rw [HRf.out]
      exact ⟨_, rfl, Hend.out X HE2.out, dX, kX⟩
    have hkn : k = n1 := by omega
    have HRl : Hid (RL = (acc.map (·.1), σ)) := by have := HS.out; rw [hkn, Nat.sub_self] at this; exact this.symm
    have hltI : ¬ (k : Int) < (n1 : Int) := by omega
    obtain ⟨⟨n2, s3⟩, hq2⟩ : ∃ q, numX B 2 σ = q := ⟨_, rfl⟩
    obtain ⟨RN, hRN⟩ := ex (sevX (noteX B) n2 [] s3)
    have hn2 : n2 < 4294967296 := by have := numX_lt B 2 (by omega) σ; rw [hq2] at this; exact this
    have Hg3 : Hid (Gd s3) := by have := Hgd.out.num (B := B) (n := 2); rw [hq2] at this; exact this
    have HRf : Hid (r = ((acc.map (·.1), RN.1), RN.2)) := by
      show _ = _
      rw [HRr.out, HRl.out]
      dsimp only
      rw [hq2]
      dsimp only
      rw [hRN]
    have Hq2 := hidM hq2
    have HRN := hidM hRN
    have Hhk := hidM hkb
    clear hkn hlt hq2 hRN m0 m1 m2 m3 m4 m5 HRl HRr
    go_wp2_with (go_at_call 43; refine Hid.out ?_)
    unfold Hid
    have hc := number17 p bo B bc 2 (by omega) wr σ HDw.out
    rw [Hq2.out] at hc
    dsimp only at hc
    refine Calls.mono hc ?_
    rintro e Y1 ⟨v, rfl, rfl, hD, hK⟩
    have HB4 := hidM (HBw.out.kp hK)
    have HG4 := hidM (HGw.out.tr hK)
    have HD4 := hidM hD
    have HA4 := hidM (HA.out.kp hK (by have := HVb.out; omega))
    have HT0 : Hid (sevX (noteX B) (n2 - 0) [] s3 = RN) := HRN.out
    clear hc hD hK
    go_wp2
    have HBd : Hid (V.heap.size = b + 1 + 1 ∧ b = W.heap.size ∧ p < W.heap.size ∧ V.heap.size ≤ Y1.heap.size) := ⟨HVb.out.1, HVb.out.2.1, HVb.out.2.2, by have := lt_of_heap HB4.out.tb; have := HVb.out; omega⟩
    go_loopw [7] (fun i wr => ∃ (j : Nat) (accn : List (ByteArray × ByteArray)) (τ : DS) (no : Option Addr) (nc : Nat), j ≤ n2 ∧ i = .int .i64 (j : Int) ∧ Hid (accn.length = j) ∧ Hid (LAt Y1 wr 55 2 (fun x : ByteArray × ByteArray => [Value.string x.1, .string x.2]) accn no nc) ∧ Hid (SB2 W wr p b (.slice vo k vc) (.slice no j nc)) ∧ Hid (DAt wr p bo B bc τ) ∧ Hid (Keeps W wr (fun z => z = p)) ∧ Hid (Gd τ) ∧ Hid (sevX (noteX B) (n2 - j) accn τ = RN) ∧ Hid (Keeps Y1 wr (fun z => z = p ∨ z = b + 1))) (fun i _ => n2 - (intOf i).toNat)
    case atStart => exact ⟨0, [], s3, none, 0, Nat.zero_le _, rfl, rfl, LAt.nil _ _ _ _ _, HB4.out, HD4.out, HG4.out, Hg3.out, HT0.out, Keeps.refl _ _⟩
    case round =>
      obtain ⟨j, accn, τ, no, nc, hj, rfl, HL2, HN, HBn, HDn, HGn, Hgn, HSn, HYn⟩ := hrel
      have hjb : j ≤ 4294967296 := by omega
      obtain ⟨m0, m1, m2, m3, m4, m5⟩ := HDn.out.cells
      by_cases hltn : j < n2
      · have hltJ : (j : Int) < (n2 : Int) := by omega
        by_cases he : τ.e = 0
        · rw [he] at m3
          obtain ⟨⟨k1, τ1⟩, hi0⟩ : ∃ q, textX B 2 τ = q := ⟨_, rfl⟩
          obtain ⟨⟨k2, τ2⟩, hi1⟩ : ∃ q, textX B 2 τ1 = q := ⟨_, rfl⟩
          have hpx : (noteX B) τ = ((k1, k2), τ2) := by unfold noteX; simp only [hi0]; simp only [hi1]
          have HS1 : Hid (sevX (noteX B) (n2 - (j + 1)) (accn ++ [(k1, k2)]) τ2 = RN) := (sevX_next hltn he hpx).symm.trans HSn.out
          have Hgd2 : Hid (Gd τ2) := by have := Gd.note (B := B) Hgn.out; rw [hpx] at this; exact this
          have Hi0 := hidM hi0
          have Hi1 := hidM hi1
          clear hpx he hi0 hi1
          obtain ⟨cc, hcc⟩ : ∃ cc, cc = wr.heap.size := ⟨_, rfl⟩
          obtain ⟨Z0, hZ0⟩ := ex (wr.alloc (.cells #[.string ⟨#[]⟩, .string ⟨#[]⟩] 55))
          have gZ := gr_al hZ0
          have hx0 := heap_alloc_new wr (.cells #[.string ⟨#[]⟩, .string ⟨#[]⟩] 55)
          rw [hZ0, ← hcc] at hx0
          have HX0 := hidM hx0
          have HK0 : Hid (Keeps wr Z0 (fun z => z = p)) := gZ.mono fun _ _ h => h.elim
          have HDz0 := hidM (HDn.out.gr gZ)
          have Hcc := hidM hcc
          have HZ0 := hidM hZ0
          clear gZ hx0 hcc hZ0
          go_wp2_with (go_at_call 60; refine Hid.out ?_)
          unfold Hid
          rw [HZ0.out, ← Hcc.out]
          clear HZ0 m0 m1 m2 m3 m4 m5
          have hc := (text31 p bo B bc 2 (by omega)) Z0 τ HDz0.out
          rw [Hi0.out] at hc
          dsimp only at hc
          refine Calls.mono hc ?_
          rintro e T0 ⟨v, rfl, rfl, hD, hK⟩
          have hx := (hK.block cc (lt_of_heap HX0.out) (by have := HDn.out.lt; have := Hcc.out; omega)).trans HX0.out
          have e0 : T0.cell? ⟨cc, 0, none⟩ = some (.string ⟨#[]⟩) := by simp [World.cell?, hx]
          have g0 := frz hx 0
          obtain ⟨Z1, hZ1⟩ : ∃ Z', T0.setCell ⟨cc, 0, none⟩ (.string k1) = Z' := ⟨_, rfl⟩
          have hx' : Z1.heap[cc]? = some (.cells #[.string k1, .string ⟨#[]⟩] 55 (0, 0)) := by rw [← hZ1, heap_setCell_same T0 cc 0 _ _ _ hx]; rfl
          have kk1 := HK0.out.tr hK
          have kk2 := kp_set kk1 (show wr.heap.size ≤ cc by have := Hcc.out; omega) 0 (.string k1)
          have dd2 := DAt.set HDn.out hD kk1 (show wr.heap.size ≤ cc by have := Hcc.out; omega) 0 (.string k1)
          rw [hZ1] at kk2 dd2
          have HX1 := hidM hx'
          have HK1 := hidM kk2
          have HDz1 := hidM dd2
          clear hc hD hK hx hx' kk1 kk2 dd2
          go_wp2_with (go_at_call 60; refine Hid.out ?_)
          unfold Hid
          have hc := (text31 p bo B bc 2 (by omega)) Z1 τ1 HDz1.out
          rw [Hi1.out] at hc
          dsimp only at hc
          refine Calls.mono hc ?_
          rintro e T1 ⟨v, rfl, rfl, hD, hK⟩
          have hx := (hK.block cc (lt_of_heap HX1.out) (by have := HDn.out.lt; have := Hcc.out; omega)).trans HX1.out
          have e1 : T1.cell? ⟨cc, 1, none⟩ = some (.string ⟨#[]⟩) := by simp [World.cell?, hx]
          have g1 := frz hx 1
          obtain ⟨Z2, hZ2⟩ : ∃ Z', T1.setCell ⟨cc, 1, none⟩ (.string k2) = Z' := ⟨_, rfl⟩
          have hx' : Z2.heap[cc]? = some (.cells #[.string k1, .string k2] 55 (0, 0)) := by rw [← hZ2, heap_setCell_same T1 cc 1 _ _ _ hx]; rfl
          have kk1 := HK1.out.tr hK
          have kk2 := kp_set kk1 (show wr.heap.size ≤ cc by have := Hcc.out; omega) 1 (.string k2)
          have dd2 := DAt.set HDn.out hD kk1 (show wr.heap.size ≤ cc by have := Hcc.out; omega) 1 (.string k2)
          rw [hZ2] at kk2 dd2
          have HX2 := hidM hx'
          have HK2 := hidM kk2
          have HDz2 := hidM dd2
          clear hc hD hK hx hx' kk1 kk2 dd2
          have HA1 := hidM (HN.out.kp HK2.out (by have := HBd.out; omega))
          have hB1 := HBn.out.kp HK2.out
          have HB1 := hidM hB1
          have HG1 := hidM (HGn.out.tr HK2.out)
          have HSr := hidM (src60 Z2 k1 k2 )
          have HO : Hid ((Z2.alloc (.cells #[.string k1, .string k2] 55)).ownsRow 0 55 2 (.slice no j nc) j (accn.flatMap (fun x : ByteArray × ByteArray => [Value.string x.1, .string x.2]))) := by have := HA1.out.own.alloc (.cells #[.string k1, .string k2] 55); rwa [HL2.out] at this
          have z6 : Z2.cell? ⟨b + 1, 1, none⟩ = some (.slice no j nc) := by simp [World.cell?, hB1.tb]
          obtain ⟨u0, u1⟩ := ce2 HX2.out
          clear hB1 e0 g0
          go_wp2_with (with_reducible show wpList Tryz.prog _ _ (Oper.mk (some 55) _ _ _ _ _ :: _) _ _; refine Hid.out ?_)
          unfold Hid
          refine wpList_append_anyN (P := Tryz.prog) _ rfl (.tmp 52) (.tmp 54) 23 23 rfl 55 (.agg #[.string ⟨#[]⟩, .string ⟨#[]⟩]) 2 32 Tryz.underlying23 info60 rfl _ _ _ rfl HO.out _ _ _ rfl HSr.out (by omega) (by omega) ?_
          refine Hid.out ?_
          unfold Hid
          intro v' w1 hown hgrow hblk
          obtain ⟨no', nc', rfl⟩ := own_formK hown
          have hbnd := HBd.out
          have kA : Keeps Z2 w1 (fun z => (Value.slice no j nc).ownBlock = some z) := ((gr_alloc Z2 _).mono fun _ _ h => h.elim).tr (Keeps.ofGrown hgrow)
          have hnew : ∀ g, (Value.slice no j nc).ownBlock = some g → Y1.heap.size ≤ g := fun g e => HA1.out.new g (by rw [HL2.out]; exact e)
          have kW : Keeps W w1 (fun z => z = p) := HG1.out.trans kA (fun j hj h => by have := hnew j h; omega)
          have hB2 := (show SB2 W w1 p b (.slice vo k vc) (.slice no j nc) from ⟨(kA.block b (lt_of_heap HB1.out.rb) (fun h => by have := hnew b h; omega)).trans HB1.out.rb, (kA.block (b + 1) (lt_of_heap HB1.out.tb) (fun h => by have := hnew (b + 1) h; omega)).trans HB1.out.tb, HB1.out.lt⟩)
          obtain ⟨w2, hw2⟩ := ex (w1.setCell ⟨b + 1, 1, none⟩ (.slice no' (j + 1) nc'))
          have k12 : Keeps w1 w2 (fun z => z = b + 1) := by rw [← hw2]; exact (Keeps.refl w1 (fun z => z = b + 1)).setCell (p := ⟨b + 1, 1, none⟩) (fun _ => rfl) _
          have hB3 := hB2.set (y0 := .slice vo k vc) (y1 := .slice no' (j + 1) nc') 1 (.slice no' (j + 1) nc') rfl
          rw [hw2] at hB3
          have kW2 : Keeps W w2 (fun z => z = p) := kW.trans k12 fun j hj e => by omega
          have HD3 := hidM (DAt.over HW0.out HDz2.out kW2 ((k12.block p (Nat.lt_of_lt_of_le HDz2.out.lt kA.size) (by omega)).trans (kA.block p HDz2.out.lt (fun h => by have := hnew p h; omega))))
          have HL3 : Hid ((accn ++ [(k1, k2)]).length = j + 1) := by show _ = _; rw [List.length_append, HL2.out]; rfl
          have hA1 : LAt Y1 w1 55 2 (fun x : ByteArray × ByteArray => [Value.string x.1, .string x.2]) (accn ++ [(k1, k2)]) no' nc' := ⟨by rw [HL3.out, List.flatMap_append]; simpa using hown, fun g e => by rw [HL3.out] at e; exact hblk.elim (fun q => hnew g (q ▸ e)) (fun q => by have := q g e; have := (gr_alloc Z2 (.cells #[.string k1, .string k2] 55)).size; have := HK2.out.size; have := HYn.out.size; omega)⟩
          have HA3 := hidM (hA1.kp2 (W := Y1) k12 (fun z hz => by omega) (Nat.le_refl _))
          have HY3 : Hid (Keeps Y1 w2 (fun z => z = p ∨ z = b + 1)) := ((HYn.out.trans HK2.out (fun _ _ h => .inl h)).trans kA (fun j hj h => by have := hnew j h; omega)).trans k12 (fun _ _ h => .inr h)
          have HB3' := hidM hB3
          have HG3 := hidM kW2
          have t6 : w1.cell? ⟨b + 1, 1, none⟩ = some (.slice no j nc) := by simp [World.cell?, hB2.tb]
          have q6 := frz hB2.tb 1
          clear hbnd hown hgrow hblk kA hnew kW hB2 hA1 k12 hB3 kW2 HO HSr HA1 z6 u0 u1
          go_wp2_with fail
          go_roundw
          case rel => exact ⟨j + 1, accn ++ [(k1, k2)], τ2, no', nc', by omega, by simp, HL3.out, HA3.out, HB3'.out, HD3.out, HG3.out, Hgd2.out, HS1.out, HY3.out⟩
          case measure => simp [intOf]; omega
        have he' : (τ.e == 0) = false := by simp [he]
        have HRl : Hid (RN = (accn, τ)) := HSn.out.symm.trans (sevX_stop he)
        have HBad := hidM he
        clear he
        obtain ⟨r0, r1⟩ := ce2 HBn.out.rb
        obtain ⟨q0, q1⟩ := fz2 HBn.out.rb
        obtain ⟨t0, t1⟩ := ce2 HBn.out.tb
        have hE1 := put2_box (.slice vo k vc) (.slice no j nc) HBn.out.rb
        have hE2 := put2_keeps wr b (.slice vo k vc) (.slice no j nc)
        obtain ⟨X, hX⟩ := ex (((wr.setCell ⟨b, 0, none⟩ (.slice vo k vc)).setCell ⟨b, 1, none⟩ (.slice no j nc)))
        rw [hX] at hE1 hE2
        have HE1 := hidM hE1
        have HE2 := hidM hE2
        clear hE1 hE2
        go_wp2_with fail
        have kX : Keeps W X (fun z => z = p) := HGn.out.trans HE2.out fun j hj e => by have := HVb.out; omega
        have dX := DAt.over HW0.out HDn.out kX (HE2.out.block p HDn.out.lt (by have := HVb.out; omega))
        (try simp only [Exit.inBlock, Exit.then])
        refine bodyPost_ret (results_cell26 rfl rfl HE1.out (by kernel_rfl)) rfl ?_
        have hend : SVx W X (acc.map (·.1), accn) (.agg #[.slice vo k vc, .slice no j nc]) := by
          have hrow := HA4.out.rowAt (by rw [HL.out]; have := Hhk.out; show _ ≤ 1000000000000; omega)
          have hVb := HVb.out
          have kYX : Keeps Y1 X (fun z => z = p ∨ z = b + 1 ∨ z = b) := (HYn.out.mono (T := fun z => z = p ∨ z = b + 1 ∨ z = b) fun _ _ h => h.elim .inl fun h => .inr (.inl h)).trans HE2.out (fun _ _ h => .inr (.inr h))
          refine ⟨vo, vc, no, nc, ?_, by show (acc.map (·.1)).length ≤ vc; rw [List.length_map]; exact hrow.1, (hrow.2.kept fun z z1 z2 => kYX.block z z2 (by omega)).wide (by omega) kYX.size, HN.out.kp2 HE2.out (fun z hz => by have := HBd.out; omega) (by have := HBd.out; omega)⟩
          show _ = Value.agg #[.slice vo (acc.map (·.1)).length vc, .slice no accn.length nc]
          rw [List.length_map, HL.out, HL2.out]
        rw [HRf.out, HRl.out]
        exact ⟨_, rfl, hend, dX, kX⟩
      have hjn : j = n2 := by omega
      have HRl : Hid (RN = (accn, τ)) := by have := HSn.out; rw [hjn, Nat.sub_self] at this; exact this.symm
      have hltJ : ¬ (j : Int) < (n2 : Int) := by omega
      clear hjn hltn
      obtain ⟨r0, r1⟩ := ce2 HBn.out.rb
      obtain ⟨q0, q1⟩ := fz2 HBn.out.rb
      obtain ⟨t0, t1⟩ := ce2 HBn.out.tb
      have hE1 := put2_box (.slice vo k vc) (.slice no j nc) HBn.out.rb
      have hE2 := put2_keeps wr b (.slice vo k vc) (.slice no j nc)
      obtain ⟨X, hX⟩ := ex (((wr.setCell ⟨b, 0, none⟩ (.slice vo k vc)).setCell ⟨b, 1, none⟩ (.slice no j nc)))
      rw [hX] at hE1 hE2
      have HE1 := hidM hE1
      have HE2 := hidM hE2
      clear hE1 hE2
      go_wp2_with fail
      have kX : Keeps W X (fun z => z = p) := HGn.out.trans HE2.out fun j hj e => by have := HVb.out; omega
      have dX := DAt.over HW0.out HDn.out kX (HE2.out.block p HDn.out.lt (by have := HVb.out; omega))
      (try simp only [Exit.inBlock, Exit.then])
      refine bodyPost_ret (results_cell26 rfl rfl HE1.out (by kernel_rfl)) rfl ?_
      have hend : SVx W X (acc.map (·.1), accn) (.agg #[.slice vo k vc, .slice no j nc]) := by
        have hrow := HA4.out.rowAt (by rw [HL.out]; have := Hhk.out; show _ ≤ 1000000000000; omega)
        have hVb := HVb.out
        have kYX : Keeps Y1 X (fun z => z = p ∨ z = b + 1 ∨ z = b) := (HYn.out.mono (T := fun z => z = p ∨ z = b + 1 ∨ z = b) fun _ _ h => h.elim .inl fun h => .inr (.inl h)).trans HE2.out (fun _ _ h => .inr (.inr h))
        refine ⟨vo, vc, no, nc, ?_, by show (acc.map (·.1)).length ≤ vc; rw [List.length_map]; exact hrow.1, (hrow.2.kept fun z z1 z2 => kYX.block z z2 (by omega)).wide (by omega) kYX.size, HN.out.kp2 HE2.out (fun z hz => by have := HBd.out; omega) (by have := HBd.out; omega)⟩
        show _ = Value.agg #[.slice vo (acc.map (·.1)).length vc, .slice no accn.length nc]
        rw [List.length_map, HL.out, HL2.out]
      rw [HRf.out, HRl.out]
      exact ⟨_, rfl, hend, dX, kX⟩
end Go.Proofs.YtdihbfjjddmbiaaGreatDoor.Kit
