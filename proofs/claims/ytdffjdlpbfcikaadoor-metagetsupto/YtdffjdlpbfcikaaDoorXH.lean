import Derived.Test.YtdffjdlpbfcikaaDoorXD
import Derived.Test.YtdffjdlpbfcikaaDoorRL
namespace Go.Proofs.YtdffjdlpbfcikaaDoor.Kit
open Go.RowKit Go.Shelf Go.Deep
set_option linter.unusedVariables false

theorem field30_all (p : Nat) (bo : Option Addr) (B : List UInt8) (bc : Nat) : ∀ d : Nat, d ≤ 64 → DCg p bo B bc 30 #[.pointer (some ⟨p, 0, none⟩), .int .i64 (64 - (d : Int))] (fieldX B d) (FV d)
  | 0, _ => fun W s h hg => field30_no p bo B bc 0 0 _ W s h hg (.inr (.inr (by omega))) _ (by rw [fieldX])
  | d + 1, hd => fun W s h hg => by
    by_cases he : s.e = 0
    · by_cases hgl : s.g = 256
      · exact field30_no p bo B bc (d + 1) 0 _ W s h hg (.inr (.inl hgl)) _ (by rw [fieldX, if_neg (by simp [he]), if_pos hgl, if_neg (by simp [he])])
      · have ih := field30_all p bo B bc d (by omega)
        have e : (64 : Int) - (d : Int) = 64 - ((d + 1 : Nat) : Int) + 1 := by omega
        rw [e] at ih
        exact field30_yes p bo B bc d _ (by omega) (by omega) ih W s h hg he hgl _ (by rw [fieldX, if_neg (by simp [he]), if_neg hgl])
    · exact field30_no p bo B bc (d + 1) 0 _ W s h hg (.inl he) _ (by rw [fieldX, if_pos he, if_pos he])
end Go.Proofs.YtdffjdlpbfcikaaDoor.Kit
namespace Go.Proofs.YtdffjdlpbfcikaaDoor.Kit
open Go.RowKit Go.Shelf Go.Deep
set_option linter.unusedVariables false
attribute [local go_sem] run_store_func

/-! ### schema 16 of the document -/
def noteX (B : List UInt8) (s : DS) : (ByteArray × ByteArray) × DS := (((textX B 2 s).1, (textX B 2 (textX B 2 s).2).1), (textX B 2 (textX B 2 s).2).2)
def schX (B : List UInt8) (s : DS) : (List FT × List (ByteArray × ByteArray)) × DS :=
  let n := numX B 2 s
  let l := sevX (fieldX B 64) n.1 [] n.2
  let m := numX B 2 l.2
  let k := sevX (noteX B) m.1 [] m.2
  ((l.1, k.1), k.2)
theorem numX_bad {B : List UInt8} {k : Nat} {s : DS} (h : s.e ≠ 0) : numX B k s = (0, s) := by
  unfold numX takeX
  rw [if_pos h]
  rfl
theorem Gd.note {B : List UInt8} {s : DS} (h : Gd s) : Gd (noteX B s).2 := h.text.text
structure SB2 (W U : World) (p b : Nat) (x0 x1 : Value) : Prop where
  rb : U.heap[b]? = some (.cells #[.slice none 0 0, .slice none 0 0] 26 (0, 0))
  tb : U.heap[b + 1]? = some (.cells #[x0, x1] 26 (0, 0))
  lt : W.heap.size ≤ b ∧ p < W.heap.size
theorem SB2.kp {W U U' : World} {p b : Nat} {x0 x1 : Value} (h : SB2 W U p b x0 x1) (q : Keeps U U' (fun z => z = p)) : SB2 W U' p b x0 x1 :=
  ⟨(q.block b (lt_of_heap h.rb) (by have := h.lt; omega)).trans h.rb, (q.block (b + 1) (lt_of_heap h.tb) (by have := h.lt; omega)).trans h.tb, h.lt⟩
theorem SB2.set {W U : World} {p b : Nat} {x0 x1 y0 y1 : Value} (h : SB2 W U p b x0 x1) (i : Nat) (v : Value) (e : (#[x0, x1] : Array Value).setIfInBounds i v = #[y0, y1]) : SB2 W (U.setCell ⟨b + 1, i, none⟩ v) p b y0 y1 := by
  refine ⟨?_, ?_, h.lt⟩
  · exact (((Keeps.refl U (fun z => z = b + 1)).setCell (p := ⟨b + 1, i, none⟩) (fun _ => rfl) v).block b (lt_of_heap h.rb) (by omega)).trans h.rb
  · rw [heap_setCell_same U (b + 1) i _ _ v h.tb, e]
def SVx (W w' : World) (x : List FT × List (ByteArray × ByteArray)) (v : Value) : Prop := ∃ fo fc no nc, v = .agg #[.slice fo x.1.length fc, .slice no x.2.length nc] ∧ x.1.length ≤ fc ∧ RowAt (fun b => W.heap.size ≤ b ∧ b < w'.heap.size) w' 65 fo x.1 ∧ LAt W w' 60 2 (fun x : ByteArray × ByteArray => [Value.string x.1, .string x.2]) x.2 no nc
theorem LAt.kp2 {α : Type} {W V U U' : World} {t s : Nat} {c : α → List Value} {l : List α} {vo : Option Addr} {vc : Nat} {S : Nat → Prop} (h : LAt V U t s c l vo vc) (k : Keeps U U' S) (hS : ∀ z, S z → z < V.heap.size) (hW : W.heap.size ≤ V.heap.size) : LAt W U' t s c l vo vc :=
  ⟨row_kp h.own fun g e => k.block g (own_lt h.own g e) (fun q => by have := hS g q; have := h.new g e; omega), fun g e => Nat.le_trans hW (h.new g e)⟩
set_option maxRecDepth 100000 in
set_option maxHeartbeats 8000000 in
theorem schema16 (p : Nat) (bo : Option Addr) (B : List UInt8) (bc : Nat) : DCg p bo B bc 16 #[.pointer (some ⟨p, 0, none⟩)] (schX B) SVx := by
  intro W s h hg
  obtain ⟨r, hr⟩ : ∃ r, r = schX B s := ⟨_, rfl⟩
  rw [← hr]
  obtain ⟨V, hV⟩ : ∃ V, (W.alloc (.cells #[.slice none 0 0, .slice none 0 0] 26)).alloc (.cells #[.slice none 0 0, .slice none 0 0] 26) = V := ⟨_, rfl⟩
  obtain ⟨b, hb⟩ : ∃ b, b = W.heap.size := ⟨_, rfl⟩
  have s1 : (W.alloc (.cells #[.slice none 0 0, .slice none 0 0] 26)).heap.size = b + 1 := by rw [hb]; simp
  have g1 := gr_alloc W (.cells #[.slice none 0 0, .slice none 0 0] 26)
  have g2 := gr_alloc (W.alloc (.cells #[.slice none 0 0, .slice none 0 0] 26)) (.cells #[.slice none 0 0, .slice none 0 0] 26)
  have c1 := heap_alloc_new W (.cells #[.slice none 0 0, .slice none 0 0] 26)
  have c2 := heap_alloc_new (W.alloc (.cells #[.slice none 0 0, .slice none 0 0] 26)) (.cells #[.slice none 0 0, .slice none 0 0] 26)
  rw [← hb] at c1
  rw [s1] at c2
  have g12 := g1.trans g2 (fun _ _ h => h)
  rw [hV] at g2 g12 c2
  have hB0 : SB2 W V p b (.slice none 0 0) (.slice none 0 0) := ⟨(g2.block b (lt_of_heap c1) id).trans c1, c2, by omega, h.lt⟩
  have hD0 := h.gr g12
  have HG0 : Hid (Keeps W V (fun z => z = p)) := g12.mono fun _ _ h => h.elim
  have HW0 := hidM h
  have HB0 := hidM hB0
  have HD0 := hidM hD0
  have HVb : Hid (V.heap.size = b + 1 + 1 ∧ b = W.heap.size ∧ p < W.heap.size) := ⟨by rw [← hV, hb]; simp, hb, h.lt⟩
  have Hb := hidM hb
  have HV := hidM hV
  have hih := field30_all p bo B bc 64 (Nat.le_refl _)
  have Hih : Hid (DCg p bo B bc 30 #[.pointer (some ⟨p, 0, none⟩), .int .i64 0] (fieldX B 64) (FV 64)) := hih
  obtain ⟨⟨n1, s2⟩, hq1⟩ : ∃ q, numX B 2 s = q := ⟨_, rfl⟩
  obtain ⟨RL, hRL⟩ : ∃ RL, sevX (fieldX B 64) n1 [] s2 = RL := ⟨_, rfl⟩
  have hn1 : n1 < 4294967296 := by have := numX_lt B 2 (by omega) s; rw [hq1] at this; exact this
  have hg2 : Gd s2 := by have := hg.num (B := B) (n := 2); rw [hq1] at this; exact this
  have hr2 : r = ((RL.1, (sevX (noteX B) (numX B 2 RL.2).1 [] (numX B 2 RL.2).2).1), (sevX (noteX B) (numX B 2 RL.2).1 [] (numX B 2 RL.2).2).2) := by
    rw [hr]
    unfold schX
    dsimp only
    rw [hq1]
    dsimp only
    rw [hRL]
  have HRr := hidM hr2
  have Hq1 := hidM hq1
  have HRL := hidM hRL
  have Hg2 := hidM hg2
  clear h hg hr hr2 hb s1 g1 g2 c1 c2 g12 hB0 hD0 hq1 hRL hg2 hih hV
  go_enter Tryd.func16, Tryd.ntmps16
  go_wp2_with (go_at_call 17; refine Hid.out ?_)
  unfold Hid
  rw [HV.out, ← Hb.out]
  clear HV
  have hc := number17 p bo B bc 2 (by omega) V s HD0.out
  rw [Hq1.out] at hc
  dsimp only at hc
  refine Calls.mono hc ?_
  rintro e Y1 ⟨v, rfl, rfl, hD, hK⟩
  have HB1 := hidM (HB0.out.kp hK)
  have HG1 := hidM (HG0.out.trans hK (fun _ _ h => h))
  have HD1 := hidM hD
  have HS0 : Hid (sevX (fieldX B 64) (n1 - 0) (([] : List FE).map (·.1)) s2 = RL) := HRL.out
  clear hc hD hK HD0 HB0 HG0
  go_wp2
  go_loopw [5] (fun i wr => ∃ (k : Nat) (acc : List FE) (σ : DS) (vo : Option Addr) (vc : Nat), k ≤ n1 ∧ i = .int .i64 (k : Int) ∧ Hid (acc.length = k) ∧ Hid (FL V wr 64 acc vo vc) ∧ Hid (SB2 W wr p b (.slice vo k vc) (.slice none 0 0)) ∧ Hid (DAt wr p bo B bc σ) ∧ Hid (Keeps W wr (fun z => z = p)) ∧ Hid (Gd σ) ∧ Hid (sevX (fieldX B 64) (n1 - k) (acc.map (·.1)) σ = RL)) (fun i _ => n1 - (intOf i).toNat)
  case atStart => exact ⟨0, [], s2, none, 0, Nat.zero_le _, rfl, rfl, FL.nil _ _ _, HB1.out, HD1.out, HG1.out, Hg2.out, HS0.out⟩
  case round =>
    obtain ⟨k, acc, σ, vo, vc, hk, rfl, HL, HA, HBw, HDw, HGw, Hgd, HS⟩ := hrel
    have hkb : k ≤ 4294967296 := by omega
    obtain ⟨m0, m1, m2, m3, m4, m5⟩ := HDw.out.cells
    by_cases hlt : k < n1
    · have hltI : (k : Int) < (n1 : Int) := by omega
      by_cases he : σ.e = 0
      · rw [he] at m3
        obtain ⟨⟨x, σ'⟩, hqx⟩ : ∃ q, fieldX B 64 σ = q := ⟨_, rfl⟩
        have HS1 : Hid (sevX (fieldX B 64) (n1 - (k + 1)) (acc.map (·.1) ++ [x]) σ' = RL) := (sevX_next hlt he hqx).symm.trans HS.out
        have hgd' := Gd.field (B := B) 64 σ Hgd.out
        have hc := Hih.out wr σ HDw.out Hgd.out
        rw [hqx] at hc hgd'
        dsimp only at hc hgd'
        have Hc := hidM hc
        have Hgd2 := hidM hgd'
        clear hc hgd' hqx he
        go_wp2_with (go_at_call 30; refine Hid.out ?_)
        unfold Hid
        refine Calls.mono Hc.out ?_
        rintro e Y ⟨v, rfl, ⟨ko, kc, rfl, hkc, hrow⟩, hD, hK⟩
        obtain ⟨Y2, hY2⟩ : ∃ Y2, Y.alloc (.cells #[.string x.name, .bool x.nul, .int .i64 x.kind, .int .i64 x.width, .int .i64 x.id, .int .i64 x.index, .slice ko x.kids.length kc] 80) = Y2 := ⟨_, rfl⟩
        have gY : Gr Y Y2 := by rw [← hY2]; exact gr_alloc Y _
        have hnb := heap_alloc_new Y (.cells #[.string x.name, .bool x.nul, .int .i64 x.kind, .int .i64 x.width, .int .i64 x.id, .int .i64 x.index, .slice ko x.kids.length kc] 80)
        rw [hY2] at hnb
        have kY : Keeps wr Y2 (fun z => z = p) := hK.trans (gY.mono fun _ _ h => h.elim) (fun _ _ h => h)
        have hVb := HVb.out
        have HA1 := hidM (HA.out.kp kY (by omega))
        have hB1 := HBw.out.kp kY
        have HB1 := hidM hB1
        have HG1 := hidM (HGw.out.trans kY (fun _ _ h => h))
        have HD1 := hidM (hD.gr gY)
        have HKd := hidM (And.intro hkc ((hrow.kept fun z hz => gY.block z hz.2 id).mono (T := fun b => wr.heap.size ≤ b ∧ b < Y2.heap.size) fun z hz => ⟨hz.1, Nat.lt_of_lt_of_le hz.2 gY.size⟩))
        have HWs := hidM (And.intro (show V.heap.size ≤ wr.heap.size by have := lt_of_heap HBw.out.tb; omega) kY.size)
        have HSr := hidM (src80 Y2 x ko kc)
        have HO : Hid ((Y2.alloc (.cells #[.string x.name, .bool x.nul, .int .i64 x.kind, .int .i64 x.width, .int .i64 x.id, .int .i64 x.index, .slice ko x.kids.length kc] 80)).ownsRow 0 80 7 (.slice vo k vc) k (acc.flatMap fcel)) := by have := HA1.out.row.own.alloc (.cells #[.string x.name, .bool x.nul, .int .i64 x.kind, .int .i64 x.width, .int .i64 x.id, .int .i64 x.index, .slice ko x.kids.length kc] 80); rwa [HL.out] at this
        have z6 : Y2.cell? ⟨b + 1, 0, none⟩ = some (.slice vo k vc) := by simp [World.cell?, hB1.tb]
        have u0 : Y2.cell? ⟨Y.heap.size, 0, none⟩ = some (.string x.name) := by simp [World.cell?, hnb]
        have u1 : Y2.cell? ⟨Y.heap.size, 1, none⟩ = some (.bool x.nul) := by simp [World.cell?, hnb]
        have u2 : Y2.cell? ⟨Y.heap.size, 2, none⟩ = some (.int .i64 x.kind) := by simp [World.cell?, hnb]
        have u3 : Y2.cell? ⟨Y.heap.size, 3, none⟩ = some (.int .i64 x.width) := by simp [World.cell?, hnb]
        have u4 : Y2.cell? ⟨Y.heap.size, 4, none⟩ = some (.int .i64 x.id) := by simp [World.cell?, hnb]
        have u5 : Y2.cell? ⟨Y.heap.size, 5, none⟩ = some (.int .i64 x.index) := by simp [World.cell?, hnb]
        have u6 : Y2.cell? ⟨Y.heap.size, 6, none⟩ = some (.slice ko x.kids.length kc) := by simp [World.cell?, hnb]
        clear gY hnb kY hB1 hD hK hkc hrow m0 m1 m2 m3 m4 m5 Hc HS hVb
        go_wp2_with (with_reducible show wpList Tryd.prog _ _ (Oper.mk (some 29) _ _ _ _ _ :: _) _ _; refine Hid.out ?_)
        unfold Hid
        refine wpList_append_anyN (P := Tryd.prog) _ rfl (.tmp 26) (.tmp 28) 23 23 rfl 80 (.agg #[.string ⟨#[]⟩, .bool false, .int .i64 0, .int .i64 0, .int .i64 0, .int .i64 0, .slice none 0 0]) 7 80 Tryd.underlying23 info80 rfl _ _ _ rfl HO.out _ _ _ rfl HSr.out (by omega) (by omega) ?_
        refine Hid.out ?_
        unfold Hid
        intro v' w1 hown hgrow hblk
        obtain ⟨vo', vc', rfl⟩ := own_formK hown
        have hVb := HVb.out
        have kA : Keeps Y2 w1 (fun z => (Value.slice vo k vc).ownBlock = some z) := ((gr_alloc Y2 _).mono fun _ _ h => h.elim).trans (Keeps.ofGrown hgrow) (fun _ _ h => h)
        have hnew : ∀ g, (Value.slice vo k vc).ownBlock = some g → V.heap.size ≤ g := fun g e => HA1.out.row.new g (by rw [HL.out]; exact e)
        have kW : Keeps W w1 (fun z => z = p) := HG1.out.trans kA (fun j hj h => by have := hnew j h; omega)
        have hB2 : SB2 W w1 p b (.slice vo k vc) (.slice none 0 0) := ⟨(kA.block b (lt_of_heap HB1.out.rb) (fun h => by have := hnew b h; omega)).trans HB1.out.rb, (kA.block (b + 1) (lt_of_heap HB1.out.tb) (fun h => by have := hnew (b + 1) h; omega)).trans HB1.out.tb, HB1.out.lt⟩
        have hA2 := FL.push HWs.out.1 HWs.out.2 HA.out HA1.out HL.out HKd.out.1 HKd.out.2 hown hgrow hblk
        obtain ⟨w2, hw2⟩ : ∃ w2, w1.setCell ⟨b + 1, 0, none⟩ (.slice vo' (k + 1) vc') = w2 := ⟨_, rfl⟩
        have k12 : Keeps w1 w2 (fun z => z = b + 1) := by rw [← hw2]; exact (Keeps.refl w1 (fun z => z = b + 1)).setCell (p := ⟨b + 1, 0, none⟩) (fun _ => rfl) _
        have hB3 := hB2.set (y0 := .slice vo' (k + 1) vc') (y1 := .slice none 0 0) 0 (.slice vo' (k + 1) vc') rfl
        rw [hw2] at hB3
        have kW2 : Keeps W w2 (fun z => z = p) := kW.trans k12 fun j hj e => by omega
        have HD3 := hidM (DAt.over HW0.out HD1.out kW2 ((k12.block p (Nat.lt_of_lt_of_le HD1.out.lt kA.size) (by omega)).trans (kA.block p HD1.out.lt (fun h => by have := hnew p h; omega))))
        have HB3' := hidM hB3
        have HG3 := hidM kW2
        have HA3 := hidM (hA2.kp k12 (by omega))
        have HL2 : Hid ((acc ++ [(x, ko, kc)]).length = k + 1) := by show _ = _; rw [List.length_append, HL.out]; rfl
        have HS2 : Hid (sevX (fieldX B 64) (n1 - (k + 1)) ((acc ++ [(x, ko, kc)]).map (·.1)) σ' = RL) := by show _ = _; rw [List.map_append]; exact HS1.out
        have t6 : w1.cell? ⟨b + 1, 0, none⟩ = some (.slice vo k vc) := by simp [World.cell?, hB2.tb]
        have q6 := frz hB2.tb 0
        clear hown hgrow hblk kA hnew kW hB2 hA2 k12 hB3 kW2 HO HSr HA1 HA HKd HWs hVb hY2 z6 u0 u1 u2 u3 u4 u5 u6
        go_wp2_with fail
        go_roundw
        case rel => exact ⟨k + 1, acc ++ [(x, ko, kc)], σ', vo', vc', by omega, by simp, HL2.out, HA3.out, HB3'.out, HD3.out, HG3.out, Hgd2.out, HS2.out⟩
        case measure => simp [intOf]; omega
      · have he' : (σ.e == 0) = false := by simp [he]
        have HRf : Hid (r = ((acc.map (·.1), []), σ)) := by
          have h1 : RL = (acc.map (·.1), σ) := HS.out.symm.trans (sevX_stop he)
          show _ = _
          rw [HRr.out, h1]
          dsimp only
          rw [numX_bad he]
          rfl
        have Hend : Hid (∀ X, Keeps wr X (fun z => z = b) → SVx W X (acc.map (·.1), []) (.agg #[.slice vo k vc, .slice none 0 0])) := fun X kX => by
          have hrow := HA.out.rowAt (by rw [HL.out]; show _ ≤ 1000000000000; omega)
          have hVb := HVb.out
          refine ⟨vo, vc, none, 0, ?_, by show (acc.map (·.1)).length ≤ vc; rw [List.length_map]; exact hrow.1, (hrow.2.kept fun z hz => kX.block z hz.2 (by omega)).mono fun z hz => ⟨by omega, Nat.lt_of_lt_of_le hz.2 kX.size⟩, LAt.nil _ _ _ _ _⟩
          show _ = Value.agg #[.slice vo (acc.map (·.1)).length vc, .slice none 0 0]
          rw [List.length_map, HL.out]
        clear he
        have r0 : wr.cell? ⟨b, 0, none⟩ = some (.slice none 0 0) := by simp [World.cell?, HBw.out.rb]
        have q0 := frz HBw.out.rb 0
        have t0 : wr.cell? ⟨b + 1, 0, none⟩ = some (.slice vo k vc) := by simp [World.cell?, HBw.out.tb]
        have r1 : wr.cell? ⟨b, 1, none⟩ = some (.slice none 0 0) := by simp [World.cell?, HBw.out.rb]
        have q1 := frz HBw.out.rb 1
        have t1 : wr.cell? ⟨b + 1, 1, none⟩ = some (.slice none 0 0) := by simp [World.cell?, HBw.out.tb]
        have hE1 := put2_box (.slice vo k vc) (.slice none 0 0) HBw.out.rb
        have hE2 := put2_keeps wr b (.slice vo k vc) (.slice none 0 0)
        obtain ⟨X, hX⟩ : ∃ X, ((wr.setCell ⟨b, 0, none⟩ (.slice vo k vc)).setCell ⟨b, 1, none⟩ (.slice none 0 0)) = X := ⟨_, rfl⟩
        rw [hX] at hE1 hE2
        have HE1 := hidM hE1
        have HE2 := hidM hE2
        clear hE1 hE2
        go_wp2_with fail
        have kX : Keeps W X (fun z => z = p) := HGw.out.trans HE2.out fun j hj e => by have := HVb.out; omega
        have dX := DAt.over HW0.out HDw.out kX (HE2.out.block p HDw.out.lt (by have := HVb.out; omega))
        (try simp only [Exit.inBlock, Exit.then])
        refine bodyPost_ret (results_cell26 rfl rfl HE1.out (by kernel_rfl)) rfl ?_
        rw [HRf.out]
        exact ⟨_, rfl, Hend.out X HE2.out, dX, kX⟩
    · have hkn : k = n1 := by omega
      have HRl : Hid (RL = (acc.map (·.1), σ)) := by have := HS.out; rw [hkn, Nat.sub_self] at this; exact this.symm
      have hltI : ¬ (k : Int) < (n1 : Int) := by omega
      obtain ⟨⟨n2, s3⟩, hq2⟩ : ∃ q, numX B 2 σ = q := ⟨_, rfl⟩
      obtain ⟨RN, hRN⟩ : ∃ RN, sevX (noteX B) n2 [] s3 = RN := ⟨_, rfl⟩
      have hn2 : n2 < 4294967296 := by have := numX_lt B 2 (by omega) σ; rw [hq2] at this; exact this
      have Hg3 : Hid (Gd s3) := by have := Hgd.out.num (B := B) (n := 2); rw [hq2] at this; exact this
      have HRf : Hid (r = ((acc.map (·.1), RN.1), RN.2)) := by
        show _ = _
        rw [HRr.out, HRl.out]
        dsimp only
        rw [hq2]
        dsimp only
        rw [hRN]
      have Hq2 := hidM hq2
      have HRN := hidM hRN
      have Hhk := hidM hkb
      clear hkn hlt hq2 hRN m0 m1 m2 m3 m4 m5 HRl HRr
      go_wp2_with (go_at_call 17; refine Hid.out ?_)
      unfold Hid
      have hc := number17 p bo B bc 2 (by omega) wr σ HDw.out
      rw [Hq2.out] at hc
      dsimp only at hc
      refine Calls.mono hc ?_
      rintro e Y1 ⟨v, rfl, rfl, hD, hK⟩
      have HB4 := hidM (HBw.out.kp hK)
      have HG4 := hidM (HGw.out.trans hK (fun _ _ h => h))
      have HD4 := hidM hD
      have HA4 := hidM (HA.out.kp hK (by have := HVb.out; omega))
      have HT0 : Hid (sevX (noteX B) (n2 - 0) [] s3 = RN) := HRN.out
      clear hc hD hK
      go_wp2
      have HBd : Hid (V.heap.size = b + 1 + 1 ∧ b = W.heap.size ∧ p < W.heap.size ∧ V.heap.size ≤ Y1.heap.size) := ⟨HVb.out.1, HVb.out.2.1, HVb.out.2.2, by have := lt_of_heap HB4.out.tb; have := HVb.out; omega⟩
      go_loopw [7] (fun i wr => ∃ (j : Nat) (accn : List (ByteArray × ByteArray)) (τ : DS) (no : Option Addr) (nc : Nat), j ≤ n2 ∧ i = .int .i64 (j : Int) ∧ Hid (accn.length = j) ∧ Hid (LAt Y1 wr 60 2 (fun x : ByteArray × ByteArray => [Value.string x.1, .string x.2]) accn no nc) ∧ Hid (SB2 W wr p b (.slice vo k vc) (.slice no j nc)) ∧ Hid (DAt wr p bo B bc τ) ∧ Hid (Keeps W wr (fun z => z = p)) ∧ Hid (Gd τ) ∧ Hid (sevX (noteX B) (n2 - j) accn τ = RN) ∧ Hid (Keeps Y1 wr (fun z => z = p ∨ z = b + 1))) (fun i _ => n2 - (intOf i).toNat)
      case atStart => exact ⟨0, [], s3, none, 0, Nat.zero_le _, rfl, rfl, LAt.nil _ _ _ _ _, HB4.out, HD4.out, HG4.out, Hg3.out, HT0.out, Keeps.refl _ _⟩
      case round =>
        obtain ⟨j, accn, τ, no, nc, hj, rfl, HL2, HN, HBn, HDn, HGn, Hgn, HSn, HYn⟩ := hrel
        have hjb : j ≤ 4294967296 := by omega
        obtain ⟨m0, m1, m2, m3, m4, m5⟩ := HDn.out.cells
        by_cases hltn : j < n2
        · have hltJ : (j : Int) < (n2 : Int) := by omega
          by_cases he : τ.e = 0
          · rw [he] at m3
            obtain ⟨⟨k1, τ1⟩, hi0⟩ : ∃ q, textX B 2 τ = q := ⟨_, rfl⟩
            obtain ⟨⟨k2, τ2⟩, hi1⟩ : ∃ q, textX B 2 τ1 = q := ⟨_, rfl⟩
            have hpx : (noteX B) τ = ((k1, k2), τ2) := by unfold noteX; simp only [hi0]; simp only [hi1]
            have HS1 : Hid (sevX (noteX B) (n2 - (j + 1)) (accn ++ [(k1, k2)]) τ2 = RN) := (sevX_next hltn he hpx).symm.trans HSn.out
            have Hgd2 : Hid (Gd τ2) := by have := Gd.note (B := B) Hgn.out; rw [hpx] at this; exact this
            have Hi0 := hidM hi0
            have Hi1 := hidM hi1
            clear hpx he hi0 hi1
            obtain ⟨cc, hcc⟩ : ∃ cc, cc = wr.heap.size := ⟨_, rfl⟩
            obtain ⟨Z0, hZ0⟩ : ∃ Z0, wr.alloc (.cells #[.string ⟨#[]⟩, .string ⟨#[]⟩] 60) = Z0 := ⟨_, rfl⟩
            have gZ : Gr wr Z0 := by rw [← hZ0]; exact gr_alloc wr _
            have hx0 := heap_alloc_new wr (.cells #[.string ⟨#[]⟩, .string ⟨#[]⟩] 60)
            rw [hZ0, ← hcc] at hx0
            have HX0 := hidM hx0
            have HK0 : Hid (Keeps wr Z0 (fun z => z = p)) := gZ.mono fun _ _ h => h.elim
            have HDz0 := hidM (HDn.out.gr gZ)
            have Hcc := hidM hcc
            have HZ0 := hidM hZ0
            clear gZ hx0 hcc hZ0
            go_wp2_with (go_at_call 31; refine Hid.out ?_)
            unfold Hid
            rw [HZ0.out, ← Hcc.out]
            clear HZ0 m0 m1 m2 m3 m4 m5
            have hc := (text31 p bo B bc 2 (by omega)) Z0 τ HDz0.out
            rw [Hi0.out] at hc
            dsimp only at hc
            refine Calls.mono hc ?_
            rintro e T0 ⟨v, rfl, rfl, hD, hK⟩
            have hx := (hK.block cc (lt_of_heap HX0.out) (by have := HDn.out.lt; have := Hcc.out; omega)).trans HX0.out
            have e0 : T0.cell? ⟨cc, 0, none⟩ = some (.string ⟨#[]⟩) := by simp [World.cell?, hx]
            have g0 := frz hx 0
            obtain ⟨Z1, hZ1⟩ : ∃ Z', T0.setCell ⟨cc, 0, none⟩ (.string k1) = Z' := ⟨_, rfl⟩
            have hx' : Z1.heap[cc]? = some (.cells #[.string k1, .string ⟨#[]⟩] 60 (0, 0)) := by rw [← hZ1, heap_setCell_same T0 cc 0 _ _ _ hx]; rfl
            have kk1 := HK0.out.trans hK (fun _ _ h => h)
            have kk2 := kp_set kk1 (show wr.heap.size ≤ cc by have := Hcc.out; omega) 0 (.string k1)
            have dd2 := DAt.set HDn.out hD kk1 (show wr.heap.size ≤ cc by have := Hcc.out; omega) 0 (.string k1)
            rw [hZ1] at kk2 dd2
            have HX1 := hidM hx'
            have HK1 := hidM kk2
            have HDz1 := hidM dd2
            clear hc hD hK hx hx' kk1 kk2 dd2
            go_wp2_with (go_at_call 31; refine Hid.out ?_)
            unfold Hid
            have hc := (text31 p bo B bc 2 (by omega)) Z1 τ1 HDz1.out
            rw [Hi1.out] at hc
            dsimp only at hc
            refine Calls.mono hc ?_
            rintro e T1 ⟨v, rfl, rfl, hD, hK⟩
            have hx := (hK.block cc (lt_of_heap HX1.out) (by have := HDn.out.lt; have := Hcc.out; omega)).trans HX1.out
            have e1 : T1.cell? ⟨cc, 1, none⟩ = some (.string ⟨#[]⟩) := by simp [World.cell?, hx]
            have g1 := frz hx 1
            obtain ⟨Z2, hZ2⟩ : ∃ Z', T1.setCell ⟨cc, 1, none⟩ (.string k2) = Z' := ⟨_, rfl⟩
            have hx' : Z2.heap[cc]? = some (.cells #[.string k1, .string k2] 60 (0, 0)) := by rw [← hZ2, heap_setCell_same T1 cc 1 _ _ _ hx]; rfl
            have kk1 := HK1.out.trans hK (fun _ _ h => h)
            have kk2 := kp_set kk1 (show wr.heap.size ≤ cc by have := Hcc.out; omega) 1 (.string k2)
            have dd2 := DAt.set HDn.out hD kk1 (show wr.heap.size ≤ cc by have := Hcc.out; omega) 1 (.string k2)
            rw [hZ2] at kk2 dd2
            have HX2 := hidM hx'
            have HK2 := hidM kk2
            have HDz2 := hidM dd2
            clear hc hD hK hx hx' kk1 kk2 dd2
            have HA1 := hidM (HN.out.kp HK2.out (by have := HBd.out; omega))
            have hB1 := HBn.out.kp HK2.out
            have HB1 := hidM hB1
            have HG1 := hidM (HGn.out.trans HK2.out (fun _ _ h => h))
            have HSr := hidM (src60 Z2 k1 k2 )
            have HO : Hid ((Z2.alloc (.cells #[.string k1, .string k2] 60)).ownsRow 0 60 2 (.slice no j nc) j (accn.flatMap (fun x : ByteArray × ByteArray => [Value.string x.1, .string x.2]))) := by have := HA1.out.own.alloc (.cells #[.string k1, .string k2] 60); rwa [HL2.out] at this
            have z6 : Z2.cell? ⟨b + 1, 1, none⟩ = some (.slice no j nc) := by simp [World.cell?, hB1.tb]
            have u0 : Z2.cell? ⟨cc, 0, none⟩ = some (.string k1) := by simp [World.cell?, HX2.out]
            have u1 : Z2.cell? ⟨cc, 1, none⟩ = some (.string k2) := by simp [World.cell?, HX2.out]
            clear hB1 e0 g0
            go_wp2_with (with_reducible show wpList Tryd.prog _ _ (Oper.mk (some 55) _ _ _ _ _ :: _) _ _; refine Hid.out ?_)
            unfold Hid
            refine wpList_append_anyN (P := Tryd.prog) _ rfl (.tmp 52) (.tmp 54) 24 24 rfl 60 (.agg #[.string ⟨#[]⟩, .string ⟨#[]⟩]) 2 32 Tryd.underlying24 info60 rfl _ _ _ rfl HO.out _ _ _ rfl HSr.out (by omega) (by omega) ?_
            refine Hid.out ?_
            unfold Hid
            intro v' w1 hown hgrow hblk
            obtain ⟨no', nc', rfl⟩ := own_formK hown
            have hbnd := HBd.out
            have kA : Keeps Z2 w1 (fun z => (Value.slice no j nc).ownBlock = some z) := ((gr_alloc Z2 _).mono fun _ _ h => h.elim).trans (Keeps.ofGrown hgrow) (fun _ _ h => h)
            have hnew : ∀ g, (Value.slice no j nc).ownBlock = some g → Y1.heap.size ≤ g := fun g e => HA1.out.new g (by rw [HL2.out]; exact e)
            have kW : Keeps W w1 (fun z => z = p) := HG1.out.trans kA (fun j hj h => by have := hnew j h; omega)
            have hB2 := (show SB2 W w1 p b (.slice vo k vc) (.slice no j nc) from ⟨(kA.block b (lt_of_heap HB1.out.rb) (fun h => by have := hnew b h; omega)).trans HB1.out.rb, (kA.block (b + 1) (lt_of_heap HB1.out.tb) (fun h => by have := hnew (b + 1) h; omega)).trans HB1.out.tb, HB1.out.lt⟩)
            obtain ⟨w2, hw2⟩ : ∃ w2, w1.setCell ⟨b + 1, 1, none⟩ (.slice no' (j + 1) nc') = w2 := ⟨_, rfl⟩
            have k12 : Keeps w1 w2 (fun z => z = b + 1) := by rw [← hw2]; exact (Keeps.refl w1 (fun z => z = b + 1)).setCell (p := ⟨b + 1, 1, none⟩) (fun _ => rfl) _
            have hB3 := hB2.set (y0 := .slice vo k vc) (y1 := .slice no' (j + 1) nc') 1 (.slice no' (j + 1) nc') rfl
            rw [hw2] at hB3
            have kW2 : Keeps W w2 (fun z => z = p) := kW.trans k12 fun j hj e => by omega
            have HD3 := hidM (DAt.over HW0.out HDz2.out kW2 ((k12.block p (Nat.lt_of_lt_of_le HDz2.out.lt kA.size) (by omega)).trans (kA.block p HDz2.out.lt (fun h => by have := hnew p h; omega))))
            have HL3 : Hid ((accn ++ [(k1, k2)]).length = j + 1) := by show _ = _; rw [List.length_append, HL2.out]; rfl
            have hA1 : LAt Y1 w1 60 2 (fun x : ByteArray × ByteArray => [Value.string x.1, .string x.2]) (accn ++ [(k1, k2)]) no' nc' := ⟨by rw [HL3.out, List.flatMap_append]; simpa using hown, fun g e => by rw [HL3.out] at e; exact hblk.elim (fun q => hnew g (q ▸ e)) (fun q => by have := q g e; have := (gr_alloc Z2 (.cells #[.string k1, .string k2] 60)).size; have := HK2.out.size; have := HYn.out.size; omega)⟩
            have HA3 := hidM (hA1.kp2 (W := Y1) k12 (fun z hz => by omega) (Nat.le_refl _))
            have HY3 : Hid (Keeps Y1 w2 (fun z => z = p ∨ z = b + 1)) := ((HYn.out.trans HK2.out (fun _ _ h => .inl h)).trans kA (fun j hj h => by have := hnew j h; omega)).trans k12 (fun _ _ h => .inr h)
            have HB3' := hidM hB3
            have HG3 := hidM kW2
            have t6 : w1.cell? ⟨b + 1, 1, none⟩ = some (.slice no j nc) := by simp [World.cell?, hB2.tb]
            have q6 := frz hB2.tb 1
            clear hbnd hown hgrow hblk kA hnew kW hB2 hA1 k12 hB3 kW2 HO HSr HA1 z6 u0 u1
            go_wp2_with fail
            go_roundw
            case rel => exact ⟨j + 1, accn ++ [(k1, k2)], τ2, no', nc', by omega, by simp, HL3.out, HA3.out, HB3'.out, HD3.out, HG3.out, Hgd2.out, HS1.out, HY3.out⟩
            case measure => simp [intOf]; omega
          · have he' : (τ.e == 0) = false := by simp [he]
            have HRl : Hid (RN = (accn, τ)) := HSn.out.symm.trans (sevX_stop he)
            have HBad := hidM he
            clear he
            have r0 : wr.cell? ⟨b, 0, none⟩ = some (.slice none 0 0) := by simp [World.cell?, HBn.out.rb]
            have q0 := frz HBn.out.rb 0
            have t0 : wr.cell? ⟨b + 1, 0, none⟩ = some (.slice vo k vc) := by simp [World.cell?, HBn.out.tb]
            have r1 : wr.cell? ⟨b, 1, none⟩ = some (.slice none 0 0) := by simp [World.cell?, HBn.out.rb]
            have q1 := frz HBn.out.rb 1
            have t1 : wr.cell? ⟨b + 1, 1, none⟩ = some (.slice no j nc) := by simp [World.cell?, HBn.out.tb]
            have hE1 := put2_box (.slice vo k vc) (.slice no j nc) HBn.out.rb
            have hE2 := put2_keeps wr b (.slice vo k vc) (.slice no j nc)
            obtain ⟨X, hX⟩ : ∃ X, ((wr.setCell ⟨b, 0, none⟩ (.slice vo k vc)).setCell ⟨b, 1, none⟩ (.slice no j nc)) = X := ⟨_, rfl⟩
            rw [hX] at hE1 hE2
            have HE1 := hidM hE1
            have HE2 := hidM hE2
            clear hE1 hE2
            go_wp2_with fail
            have kX : Keeps W X (fun z => z = p) := HGn.out.trans HE2.out fun j hj e => by have := HVb.out; omega
            have dX := DAt.over HW0.out HDn.out kX (HE2.out.block p HDn.out.lt (by have := HVb.out; omega))
            (try simp only [Exit.inBlock, Exit.then])
            refine bodyPost_ret (results_cell26 rfl rfl HE1.out (by kernel_rfl)) rfl ?_
            have hend : SVx W X (acc.map (·.1), accn) (.agg #[.slice vo k vc, .slice no j nc]) := by
              have hrow := HA4.out.rowAt (by rw [HL.out]; have := Hhk.out; show _ ≤ 1000000000000; omega)
              have hVb := HVb.out
              have kYX : Keeps Y1 X (fun z => z = p ∨ z = b + 1 ∨ z = b) := (HYn.out.mono (T := fun z => z = p ∨ z = b + 1 ∨ z = b) fun _ _ h => h.elim .inl fun h => .inr (.inl h)).trans HE2.out (fun _ _ h => .inr (.inr h))
              refine ⟨vo, vc, no, nc, ?_, by show (acc.map (·.1)).length ≤ vc; rw [List.length_map]; exact hrow.1, (hrow.2.kept fun z hz => kYX.block z hz.2 (by omega)).mono fun z hz => ⟨by omega, Nat.lt_of_lt_of_le hz.2 kYX.size⟩, HN.out.kp2 HE2.out (fun z hz => by have := HBd.out; omega) (by have := HBd.out; omega)⟩
              show _ = Value.agg #[.slice vo (acc.map (·.1)).length vc, .slice no accn.length nc]
              rw [List.length_map, HL.out, HL2.out]
            rw [HRf.out, HRl.out]
            exact ⟨_, rfl, hend, dX, kX⟩
        · have hjn : j = n2 := by omega
          have HRl : Hid (RN = (accn, τ)) := by have := HSn.out; rw [hjn, Nat.sub_self] at this; exact this.symm
          have hltJ : ¬ (j : Int) < (n2 : Int) := by omega
          clear hjn hltn
          have r0 : wr.cell? ⟨b, 0, none⟩ = some (.slice none 0 0) := by simp [World.cell?, HBn.out.rb]
          have q0 := frz HBn.out.rb 0
          have t0 : wr.cell? ⟨b + 1, 0, none⟩ = some (.slice vo k vc) := by simp [World.cell?, HBn.out.tb]
          have r1 : wr.cell? ⟨b, 1, none⟩ = some (.slice none 0 0) := by simp [World.cell?, HBn.out.rb]
          have q1 := frz HBn.out.rb 1
          have t1 : wr.cell? ⟨b + 1, 1, none⟩ = some (.slice no j nc) := by simp [World.cell?, HBn.out.tb]
          have hE1 := put2_box (.slice vo k vc) (.slice no j nc) HBn.out.rb
          have hE2 := put2_keeps wr b (.slice vo k vc) (.slice no j nc)
          obtain ⟨X, hX⟩ : ∃ X, ((wr.setCell ⟨b, 0, none⟩ (.slice vo k vc)).setCell ⟨b, 1, none⟩ (.slice no j nc)) = X := ⟨_, rfl⟩
          rw [hX] at hE1 hE2
          have HE1 := hidM hE1
          have HE2 := hidM hE2
          clear hE1 hE2
          go_wp2_with fail
          have kX : Keeps W X (fun z => z = p) := HGn.out.trans HE2.out fun j hj e => by have := HVb.out; omega
          have dX := DAt.over HW0.out HDn.out kX (HE2.out.block p HDn.out.lt (by have := HVb.out; omega))
          (try simp only [Exit.inBlock, Exit.then])
          refine bodyPost_ret (results_cell26 rfl rfl HE1.out (by kernel_rfl)) rfl ?_
          have hend : SVx W X (acc.map (·.1), accn) (.agg #[.slice vo k vc, .slice no j nc]) := by
            have hrow := HA4.out.rowAt (by rw [HL.out]; have := Hhk.out; show _ ≤ 1000000000000; omega)
            have hVb := HVb.out
            have kYX : Keeps Y1 X (fun z => z = p ∨ z = b + 1 ∨ z = b) := (HYn.out.mono (T := fun z => z = p ∨ z = b + 1 ∨ z = b) fun _ _ h => h.elim .inl fun h => .inr (.inl h)).trans HE2.out (fun _ _ h => .inr (.inr h))
            refine ⟨vo, vc, no, nc, ?_, by show (acc.map (·.1)).length ≤ vc; rw [List.length_map]; exact hrow.1, (hrow.2.kept fun z hz => kYX.block z hz.2 (by omega)).mono fun z hz => ⟨by omega, Nat.lt_of_lt_of_le hz.2 kYX.size⟩, HN.out.kp2 HE2.out (fun z hz => by have := HBd.out; omega) (by have := HBd.out; omega)⟩
            show _ = Value.agg #[.slice vo (acc.map (·.1)).length vc, .slice no accn.length nc]
            rw [List.length_map, HL.out, HL2.out]
          rw [HRf.out, HRl.out]
          exact ⟨_, rfl, hend, dX, kX⟩
end Go.Proofs.YtdffjdlpbfcikaaDoor.Kit
namespace Go.Proofs.YtdffjdlpbfcikaaDoor.Kit
open Go.RowKit Go.Shelf Go.Deep
set_option linter.unusedVariables false
attribute [local go_sem] run_store_func

/-! ### body 18 of the document -/
def nodeX (B : List UInt8) (s : DS) : (Int × Int) × DS := ((((numX B 4 s).1 : Int), ((numX B 4 (numX B 4 s).2).1 : Int)), (numX B 4 (numX B 4 s).2).2)
def slotX (B : List UInt8) (s : DS) : (Int × Int × Int) × DS := ((((numX B 4 s).1 : Int), ((numX B 4 (numX B 4 s).2).1 : Int), ((numX B 4 (numX B 4 (numX B 4 s).2).2).1 : Int)), (numX B 4 (numX B 4 (numX B 4 s).2).2).2)
def bodX (B : List UInt8) (s : DS) : (Nat × Nat × List (Int × Int) × List (Int × Int × Int)) × DS :=
  let a := numX B 4 s
  let b := numX B 1 a.2
  let n := numX B 2 b.2
  let l := sevX (nodeX B) n.1 [] n.2
  let m := numX B 2 l.2
  let t := sevX (slotX B) m.1 [] m.2
  ((a.1, b.1, l.1, t.1), t.2)
theorem Gd.node {B : List UInt8} {s : DS} (h : Gd s) : Gd (nodeX B s).2 := h.num.num
theorem Gd.slot {B : List UInt8} {s : DS} (h : Gd s) : Gd (slotX B s).2 := h.num.num.num
structure HB18 (W U : World) (p b : Nat) (x0 x1 x2 x3 x4 x5 x6 x7 x8 : Value) : Prop where
  tb : U.heap[b]? = some (.cells #[x0, x1, x2, x3, x4, x5, x6, x7, x8] 30 (0, 0))
  rb : U.heap[b + 1]? = some (.cells #[.int .i64 0, .slice none 0 0, .slice none 0 0, .int .i64 0, .bool false, .int .i64 0, .int .i64 0, .slice none 0 0, .slice none 0 0] 30 (0, 0))
  lt : W.heap.size ≤ b ∧ p < W.heap.size
theorem HB18.kp {W U U' : World} {p b : Nat} {x0 x1 x2 x3 x4 x5 x6 x7 x8 : Value} (h : HB18 W U p b x0 x1 x2 x3 x4 x5 x6 x7 x8) (q : Keeps U U' (fun z => z = p)) : HB18 W U' p b x0 x1 x2 x3 x4 x5 x6 x7 x8 :=
  ⟨(q.block b (lt_of_heap h.tb) (by have := h.lt; omega)).trans h.tb, (q.block (b + 1) (lt_of_heap h.rb) (by have := h.lt; omega)).trans h.rb, h.lt⟩
theorem HB18.set {W U : World} {p b : Nat} {x0 x1 x2 x3 x4 x5 x6 x7 x8 y0 y1 y2 y3 y4 y5 y6 y7 y8 : Value} (h : HB18 W U p b x0 x1 x2 x3 x4 x5 x6 x7 x8) (i : Nat) (v : Value) (e : (#[x0, x1, x2, x3, x4, x5, x6, x7, x8] : Array Value).setIfInBounds i v = #[y0, y1, y2, y3, y4, y5, y6, y7, y8]) : HB18 W (U.setCell ⟨b, i, none⟩ v) p b y0 y1 y2 y3 y4 y5 y6 y7 y8 := by
  refine ⟨?_, ?_, h.lt⟩
  · rw [heap_setCell_same U b i _ _ v h.tb, e]
  · exact (((Keeps.refl U (fun z => z = b)).setCell (p := ⟨b, i, none⟩) (fun _ => rfl) v).block (b + 1) (lt_of_heap h.rb) (by omega)).trans h.rb
def BVx (hk hi : Int) (hdl : Bool) (W w' : World) (x : Nat × Nat × List (Int × Int) × List (Int × Int × Int)) (v : Value) : Prop := ∃ vo vc uo uc, v = .agg #[.int .i64 hk, .slice none 0 0, .slice none 0 0, .int .i64 hi, .bool hdl, .int .i64 (x.1 : Int), .int .i64 (x.2.1 : Int), .slice vo x.2.2.1.length vc, .slice uo x.2.2.2.length uc] ∧ LAt W w' 62 2 (fun x : Int × Int => [Value.int .i64 x.1, .int .i64 x.2]) x.2.2.1 vo vc ∧ LAt W w' 64 3 (fun x : Int × Int × Int => [Value.int .i64 x.1, .int .i64 x.2.1, .int .i64 x.2.2]) x.2.2.2 uo uc
set_option maxRecDepth 100000 in
set_option maxHeartbeats 8000000 in
theorem body18 (p : Nat) (bo : Option Addr) (B : List UInt8) (bc : Nat) (hk hi : Int) (hdl : Bool) : DCg p bo B bc 18 #[.pointer (some ⟨p, 0, none⟩), .agg #[.int .i64 hk, .slice none 0 0, .slice none 0 0, .int .i64 hi, .bool hdl, .int .i64 0, .int .i64 0, .slice none 0 0, .slice none 0 0]] (bodX B) (BVx hk hi hdl) := by
  intro W s h hg
  obtain ⟨r, hr⟩ : ∃ r, r = bodX B s := ⟨_, rfl⟩
  rw [← hr]
  obtain ⟨V, hV⟩ : ∃ V, (W.alloc (.cells #[.int .i64 hk, .slice none 0 0, .slice none 0 0, .int .i64 hi, .bool hdl, .int .i64 0, .int .i64 0, .slice none 0 0, .slice none 0 0] 30)).alloc (.cells #[.int .i64 0, .slice none 0 0, .slice none 0 0, .int .i64 0, .bool false, .int .i64 0, .int .i64 0, .slice none 0 0, .slice none 0 0] 30) = V := ⟨_, rfl⟩
  obtain ⟨b, hb⟩ : ∃ b, b = W.heap.size := ⟨_, rfl⟩
  have s1 : (W.alloc (.cells #[.int .i64 hk, .slice none 0 0, .slice none 0 0, .int .i64 hi, .bool hdl, .int .i64 0, .int .i64 0, .slice none 0 0, .slice none 0 0] 30)).heap.size = b + 1 := by rw [hb]; simp
  have g1 := gr_alloc W (.cells #[.int .i64 hk, .slice none 0 0, .slice none 0 0, .int .i64 hi, .bool hdl, .int .i64 0, .int .i64 0, .slice none 0 0, .slice none 0 0] 30)
  have g2 := gr_alloc (W.alloc (.cells #[.int .i64 hk, .slice none 0 0, .slice none 0 0, .int .i64 hi, .bool hdl, .int .i64 0, .int .i64 0, .slice none 0 0, .slice none 0 0] 30)) (.cells #[.int .i64 0, .slice none 0 0, .slice none 0 0, .int .i64 0, .bool false, .int .i64 0, .int .i64 0, .slice none 0 0, .slice none 0 0] 30)
  have c1 := heap_alloc_new W (.cells #[.int .i64 hk, .slice none 0 0, .slice none 0 0, .int .i64 hi, .bool hdl, .int .i64 0, .int .i64 0, .slice none 0 0, .slice none 0 0] 30)
  have c2 := heap_alloc_new (W.alloc (.cells #[.int .i64 hk, .slice none 0 0, .slice none 0 0, .int .i64 hi, .bool hdl, .int .i64 0, .int .i64 0, .slice none 0 0, .slice none 0 0] 30)) (.cells #[.int .i64 0, .slice none 0 0, .slice none 0 0, .int .i64 0, .bool false, .int .i64 0, .int .i64 0, .slice none 0 0, .slice none 0 0] 30)
  rw [← hb] at c1
  rw [s1] at c2
  have g12 := g1.trans g2 (fun _ _ h => h)
  rw [hV] at g2 g12 c2
  have HB0 : Hid (HB18 W V p b (.int .i64 hk) (.slice none 0 0) (.slice none 0 0) (.int .i64 hi) (.bool hdl) (.int .i64 0) (.int .i64 0) (.slice none 0 0) (.slice none 0 0)) := ⟨(g2.block b (lt_of_heap c1) id).trans c1, c2, by omega, h.lt⟩
  have HG0 : Hid (Keeps W V (fun z => z = p)) := g12.mono fun _ _ h => h.elim
  have HW0 := hidM h
  have HD0 := hidM (h.gr g12)
  have HVb : Hid (V.heap.size = b + 1 + 1 ∧ b = W.heap.size ∧ p < W.heap.size) := ⟨by rw [← hV, hb]; simp, hb, h.lt⟩
  have Hb := hidM hb
  have HV := hidM hV
  obtain ⟨⟨w5, s2⟩, hq1⟩ : ∃ q, numX B 4 s = q := ⟨_, rfl⟩
  obtain ⟨⟨w6, s3⟩, hq2⟩ : ∃ q, numX B 1 s2 = q := ⟨_, rfl⟩
  obtain ⟨⟨n1, s4⟩, hq3⟩ : ∃ q, numX B 2 s3 = q := ⟨_, rfl⟩
  obtain ⟨RL, hRL⟩ : ∃ RL, sevX (nodeX B) n1 [] s4 = RL := ⟨_, rfl⟩
  have hn1 : n1 < 4294967296 := by have := numX_lt B 2 (by omega) s3; rw [hq3] at this; exact this
  have Hg4 : Hid (Gd s4) := by
    have h1 := hg.num (B := B) (n := 4)
    rw [hq1] at h1
    have h2 := Gd.num (B := B) (n := 1) h1
    rw [hq2] at h2
    have h3 := Gd.num (B := B) (n := 2) h2
    rw [hq3] at h3
    exact h3
  have HRr : Hid (r = ((w5, w6, RL.1, (sevX (slotX B) (numX B 2 RL.2).1 [] (numX B 2 RL.2).2).1), (sevX (slotX B) (numX B 2 RL.2).1 [] (numX B 2 RL.2).2).2)) := by
    show _ = _
    rw [hr]
    unfold bodX
    simp only [hq1, hq2, hq3, hRL]
  have Hq1 := hidM hq1
  have Hq2 := hidM hq2
  have Hq3 := hidM hq3
  have HT0 : Hid (sevX (nodeX B) (n1 - 0) [] s4 = RL) := hRL
  clear h hg hr hb s1 g1 g2 c1 c2 g12 hq1 hq2 hq3 hRL hV
  go_enter Tryd.func18, Tryd.ntmps18
  go_wp2_with (go_at_call 17; refine Hid.out ?_)
  unfold Hid
  rw [HV.out, ← Hb.out]
  clear HV
  have hc := number17 p bo B bc 4 (by omega) V s HD0.out
  rw [Hq1.out] at hc
  dsimp only at hc
  refine Calls.mono hc ?_
  rintro e Y1 ⟨v, rfl, rfl, hD, hK⟩
  have hT := HB0.out.kp hK
  have hGy := HG0.out.trans hK (fun _ _ h => h)
  clear hc
  have t5 : Y1.cell? ⟨b, 5, none⟩ = some (.int .i64 0) := by simp [World.cell?, hT.tb]
  have q5 := frz hT.tb 5
  obtain ⟨U1, hU1⟩ : ∃ U', Y1.setCell ⟨b, 5, none⟩ (.int .i64 (w5 : Int)) = U' := ⟨_, rfl⟩
  have hS := hT.set (y0 := (.int .i64 hk)) (y1 := (.slice none 0 0)) (y2 := (.slice none 0 0)) (y3 := (.int .i64 hi)) (y4 := (.bool hdl)) (y5 := (.int .i64 (w5 : Int))) (y6 := (.int .i64 0)) (y7 := (.slice none 0 0)) (y8 := (.slice none 0 0)) 5 (.int .i64 (w5 : Int)) rfl
  have hG' := kp_set hGy (show W.heap.size ≤ b by have := HVb.out; omega) 5 (.int .i64 (w5 : Int))
  have hD' := DAt.set HW0.out hD hGy (show W.heap.size ≤ b by have := HVb.out; omega) 5 (.int .i64 (w5 : Int))
  rw [hU1] at hS hG' hD'
  have HB1 := hidM hS
  have HG1 := hidM hG'
  have HD1 := hidM hD'
  clear hS hGy hG' hD' hT hD hK
  go_wp2_with (go_at_call 17; refine Hid.out ?_)
  unfold Hid
  have hc := number17 p bo B bc 1 (by omega) U1 s2 HD1.out
  rw [Hq2.out] at hc
  dsimp only at hc
  refine Calls.mono hc ?_
  rintro e Y2 ⟨v, rfl, rfl, hD, hK⟩
  have hT := HB1.out.kp hK
  have hGy := HG1.out.trans hK (fun _ _ h => h)
  clear hc
  have t6 : Y2.cell? ⟨b, 6, none⟩ = some (.int .i64 0) := by simp [World.cell?, hT.tb]
  have q6 := frz hT.tb 6
  obtain ⟨U2, hU2⟩ : ∃ U', Y2.setCell ⟨b, 6, none⟩ (.int .i64 (w6 : Int)) = U' := ⟨_, rfl⟩
  have hS := hT.set (y0 := (.int .i64 hk)) (y1 := (.slice none 0 0)) (y2 := (.slice none 0 0)) (y3 := (.int .i64 hi)) (y4 := (.bool hdl)) (y5 := (.int .i64 (w5 : Int))) (y6 := (.int .i64 (w6 : Int))) (y7 := (.slice none 0 0)) (y8 := (.slice none 0 0)) 6 (.int .i64 (w6 : Int)) rfl
  have hG' := kp_set hGy (show W.heap.size ≤ b by have := HVb.out; omega) 6 (.int .i64 (w6 : Int))
  have hD' := DAt.set HW0.out hD hGy (show W.heap.size ≤ b by have := HVb.out; omega) 6 (.int .i64 (w6 : Int))
  rw [hU2] at hS hG' hD'
  have HB2 := hidM hS
  have HG2 := hidM hG'
  have HD2 := hidM hD'
  clear hS hGy hG' hD' hT hD hK
  go_wp2_with (go_at_call 17; refine Hid.out ?_)
  unfold Hid
  have hc := number17 p bo B bc 2 (by omega) U2 s3 HD2.out
  rw [Hq3.out] at hc
  dsimp only at hc
  refine Calls.mono hc ?_
  rintro e Y3 ⟨v, rfl, rfl, hD, hK⟩
  have hT := HB2.out.kp hK
  have hGy := HG2.out.trans hK (fun _ _ h => h)
  clear hc
  have HB3 := hidM hT
  have HG3 := hidM hGy
  have HD3 := hidM hD
  have HBd : Hid (V.heap.size = b + 1 + 1 ∧ b = W.heap.size ∧ p < W.heap.size ∧ V.heap.size ≤ Y3.heap.size) := ⟨HVb.out.1, HVb.out.2.1, HVb.out.2.2, by have := lt_of_heap hT.rb; have := HVb.out; omega⟩
  clear hT hGy hD hK
  go_wp2
  go_loopw [6] (fun i wr => ∃ (j : Nat) (accn : List (Int × Int)) (τ : DS) (no : Option Addr) (nc : Nat), j ≤ n1 ∧ i = .int .i64 (j : Int) ∧ Hid (accn.length = j) ∧ Hid (LAt Y3 wr 62 2 (fun x : Int × Int => [Value.int .i64 x.1, .int .i64 x.2]) accn no nc) ∧ Hid (HB18 W wr p b (.int .i64 hk) (.slice none 0 0) (.slice none 0 0) (.int .i64 hi) (.bool hdl) (.int .i64 (w5 : Int)) (.int .i64 (w6 : Int)) (.slice no j nc) (.slice none 0 0)) ∧ Hid (DAt wr p bo B bc τ) ∧ Hid (Keeps W wr (fun z => z = p)) ∧ Hid (Gd τ) ∧ Hid (sevX (nodeX B) (n1 - j) accn τ = RL) ∧ Hid (Keeps Y3 wr (fun z => z = p ∨ z = b))) (fun i _ => n1 - (intOf i).toNat)
  case atStart => exact ⟨0, [], s4, none, 0, Nat.zero_le _, rfl, rfl, LAt.nil _ _ _ _ _, HB3.out, HD3.out, HG3.out, Hg4.out, HT0.out, Keeps.refl _ _⟩
  case round =>
    obtain ⟨j, accn, τ, no, nc, hj, rfl, HL2, HN, HBn, HDn, HGn, Hgn, HSn, HYn⟩ := hrel
    have hjb : j ≤ 4294967296 := by omega
    obtain ⟨m0, m1, m2, m3, m4, m5⟩ := HDn.out.cells
    by_cases hltn : j < n1
    · have hltJ : (j : Int) < (n1 : Int) := by omega
      by_cases he : τ.e = 0
      · rw [he] at m3
        obtain ⟨⟨k1, τ1⟩, hi0⟩ : ∃ q, numX B 4 τ = q := ⟨_, rfl⟩
        obtain ⟨⟨k2, τ2⟩, hi1⟩ : ∃ q, numX B 4 τ1 = q := ⟨_, rfl⟩
        have hpx : (nodeX B) τ = (((k1 : Int), (k2 : Int)), τ2) := by unfold nodeX; simp only [hi0]; simp only [hi1]
        have HS1 : Hid (sevX (nodeX B) (n1 - (j + 1)) (accn ++ [((k1 : Int), (k2 : Int))]) τ2 = RL) := (sevX_next hltn he hpx).symm.trans HSn.out
        have Hgd2 : Hid (Gd τ2) := by have := Gd.node (B := B) Hgn.out; rw [hpx] at this; exact this
        have Hi0 := hidM hi0
        have Hi1 := hidM hi1
        clear hpx he hi0 hi1
        obtain ⟨cc, hcc⟩ : ∃ cc, cc = wr.heap.size := ⟨_, rfl⟩
        obtain ⟨Z0, hZ0⟩ : ∃ Z0, wr.alloc (.cells #[.int .i64 0, .int .i64 0] 62) = Z0 := ⟨_, rfl⟩
        have gZ : Gr wr Z0 := by rw [← hZ0]; exact gr_alloc wr _
        have hx0 := heap_alloc_new wr (.cells #[.int .i64 0, .int .i64 0] 62)
        rw [hZ0, ← hcc] at hx0
        have HX0 := hidM hx0
        have HK0 : Hid (Keeps wr Z0 (fun z => z = p)) := gZ.mono fun _ _ h => h.elim
        have HDz0 := hidM (HDn.out.gr gZ)
        have Hcc := hidM hcc
        have HZ0 := hidM hZ0
        clear gZ hx0 hcc hZ0
        go_wp2_with (go_at_call 17; refine Hid.out ?_)
        unfold Hid
        rw [HZ0.out, ← Hcc.out]
        clear HZ0 m0 m1 m2 m3 m4 m5
        have hc := (number17 p bo B bc 4 (by omega)) Z0 τ HDz0.out
        rw [Hi0.out] at hc
        dsimp only at hc
        refine Calls.mono hc ?_
        rintro e T0 ⟨v, rfl, rfl, hD, hK⟩
        have hx := (hK.block cc (lt_of_heap HX0.out) (by have := HDn.out.lt; have := Hcc.out; omega)).trans HX0.out
        have e0 : T0.cell? ⟨cc, 0, none⟩ = some (.int .i64 0) := by simp [World.cell?, hx]
        have g0 := frz hx 0
        obtain ⟨Z1, hZ1⟩ : ∃ Z', T0.setCell ⟨cc, 0, none⟩ (.int .i64 (k1 : Int)) = Z' := ⟨_, rfl⟩
        have hx' : Z1.heap[cc]? = some (.cells #[.int .i64 (k1 : Int), .int .i64 0] 62 (0, 0)) := by rw [← hZ1, heap_setCell_same T0 cc 0 _ _ _ hx]; rfl
        have kk1 := HK0.out.trans hK (fun _ _ h => h)
        have kk2 := kp_set kk1 (show wr.heap.size ≤ cc by have := Hcc.out; omega) 0 (.int .i64 (k1 : Int))
        have dd2 := DAt.set HDn.out hD kk1 (show wr.heap.size ≤ cc by have := Hcc.out; omega) 0 (.int .i64 (k1 : Int))
        rw [hZ1] at kk2 dd2
        have HX1 := hidM hx'
        have HK1 := hidM kk2
        have HDz1 := hidM dd2
        clear hc hD hK hx hx' kk1 kk2 dd2
        go_wp2_with (go_at_call 17; refine Hid.out ?_)
        unfold Hid
        have hc := (number17 p bo B bc 4 (by omega)) Z1 τ1 HDz1.out
        rw [Hi1.out] at hc
        dsimp only at hc
        refine Calls.mono hc ?_
        rintro e T1 ⟨v, rfl, rfl, hD, hK⟩
        have hx := (hK.block cc (lt_of_heap HX1.out) (by have := HDn.out.lt; have := Hcc.out; omega)).trans HX1.out
        have e1 : T1.cell? ⟨cc, 1, none⟩ = some (.int .i64 0) := by simp [World.cell?, hx]
        have g1 := frz hx 1
        obtain ⟨Z2, hZ2⟩ : ∃ Z', T1.setCell ⟨cc, 1, none⟩ (.int .i64 (k2 : Int)) = Z' := ⟨_, rfl⟩
        have hx' : Z2.heap[cc]? = some (.cells #[.int .i64 (k1 : Int), .int .i64 (k2 : Int)] 62 (0, 0)) := by rw [← hZ2, heap_setCell_same T1 cc 1 _ _ _ hx]; rfl
        have kk1 := HK1.out.trans hK (fun _ _ h => h)
        have kk2 := kp_set kk1 (show wr.heap.size ≤ cc by have := Hcc.out; omega) 1 (.int .i64 (k2 : Int))
        have dd2 := DAt.set HDn.out hD kk1 (show wr.heap.size ≤ cc by have := Hcc.out; omega) 1 (.int .i64 (k2 : Int))
        rw [hZ2] at kk2 dd2
        have HX2 := hidM hx'
        have HK2 := hidM kk2
        have HDz2 := hidM dd2
        clear hc hD hK hx hx' kk1 kk2 dd2
        have HA1 := hidM (HN.out.kp HK2.out (by have := HBd.out; omega))
        have hB1 := HBn.out.kp HK2.out
        have HB1 := hidM hB1
        have HG1 := hidM (HGn.out.trans HK2.out (fun _ _ h => h))
        have HSr := hidM (src62 Z2 (k1 : Int) (k2 : Int) )
        have HO : Hid ((Z2.alloc (.cells #[.int .i64 (k1 : Int), .int .i64 (k2 : Int)] 62)).ownsRow 0 62 2 (.slice no j nc) j (accn.flatMap (fun x : Int × Int => [Value.int .i64 x.1, .int .i64 x.2]))) := by have := HA1.out.own.alloc (.cells #[.int .i64 (k1 : Int), .int .i64 (k2 : Int)] 62); rwa [HL2.out] at this
        have z6 : Z2.cell? ⟨b, 7, none⟩ = some (.slice no j nc) := by simp [World.cell?, hB1.tb]
        have u0 : Z2.cell? ⟨cc, 0, none⟩ = some (.int .i64 (k1 : Int)) := by simp [World.cell?, HX2.out]
        have u1 : Z2.cell? ⟨cc, 1, none⟩ = some (.int .i64 (k2 : Int)) := by simp [World.cell?, HX2.out]
        clear hB1 e0 g0
        go_wp2_with (with_reducible show wpList Tryd.prog _ _ (Oper.mk (some 40) _ _ _ _ _ :: _) _ _; refine Hid.out ?_)
        unfold Hid
        refine wpList_append_anyN (P := Tryd.prog) _ rfl (.tmp 37) (.tmp 39) 27 27 rfl 62 (.agg #[.int .i64 0, .int .i64 0]) 2 16 Tryd.underlying27 info62 rfl _ _ _ rfl HO.out _ _ _ rfl HSr.out (by omega) (by omega) ?_
        refine Hid.out ?_
        unfold Hid
        intro v' w1 hown hgrow hblk
        obtain ⟨no', nc', rfl⟩ := own_formK hown
        have hbnd := HBd.out
        have kA : Keeps Z2 w1 (fun z => (Value.slice no j nc).ownBlock = some z) := ((gr_alloc Z2 _).mono fun _ _ h => h.elim).trans (Keeps.ofGrown hgrow) (fun _ _ h => h)
        have hnew : ∀ g, (Value.slice no j nc).ownBlock = some g → Y3.heap.size ≤ g := fun g e => HA1.out.new g (by rw [HL2.out]; exact e)
        have kW : Keeps W w1 (fun z => z = p) := HG1.out.trans kA (fun j hj h => by have := hnew j h; omega)
        have hB2 := (show HB18 W w1 p b (.int .i64 hk) (.slice none 0 0) (.slice none 0 0) (.int .i64 hi) (.bool hdl) (.int .i64 (w5 : Int)) (.int .i64 (w6 : Int)) (.slice no j nc) (.slice none 0 0) from ⟨(kA.block b (lt_of_heap HB1.out.tb) (fun h => by have := hnew b h; omega)).trans HB1.out.tb, (kA.block (b + 1) (lt_of_heap HB1.out.rb) (fun h => by have := hnew (b + 1) h; omega)).trans HB1.out.rb, HB1.out.lt⟩)
        obtain ⟨w2, hw2⟩ : ∃ w2, w1.setCell ⟨b, 7, none⟩ (.slice no' (j + 1) nc') = w2 := ⟨_, rfl⟩
        have k12 : Keeps w1 w2 (fun z => z = b) := by rw [← hw2]; exact (Keeps.refl w1 (fun z => z = b)).setCell (p := ⟨b, 7, none⟩) (fun _ => rfl) _
        have hB3 := hB2.set (y0 := (.int .i64 hk)) (y1 := (.slice none 0 0)) (y2 := (.slice none 0 0)) (y3 := (.int .i64 hi)) (y4 := (.bool hdl)) (y5 := (.int .i64 (w5 : Int))) (y6 := (.int .i64 (w6 : Int))) (y7 := (.slice no' (j + 1) nc')) (y8 := (.slice none 0 0)) 7 (.slice no' (j + 1) nc') rfl
        rw [hw2] at hB3
        have kW2 : Keeps W w2 (fun z => z = p) := kW.trans k12 fun j hj e => by omega
        have HD3 := hidM (DAt.over HW0.out HDz2.out kW2 ((k12.block p (Nat.lt_of_lt_of_le HDz2.out.lt kA.size) (by omega)).trans (kA.block p HDz2.out.lt (fun h => by have := hnew p h; omega))))
        have HL3 : Hid ((accn ++ [((k1 : Int), (k2 : Int))]).length = j + 1) := by show _ = _; rw [List.length_append, HL2.out]; rfl
        have hA1 : LAt Y3 w1 62 2 (fun x : Int × Int => [Value.int .i64 x.1, .int .i64 x.2]) (accn ++ [((k1 : Int), (k2 : Int))]) no' nc' := ⟨by rw [HL3.out, List.flatMap_append]; simpa using hown, fun g e => by rw [HL3.out] at e; exact hblk.elim (fun q => hnew g (q ▸ e)) (fun q => by have := q g e; have := (gr_alloc Z2 (.cells #[.int .i64 (k1 : Int), .int .i64 (k2 : Int)] 62)).size; have := HK2.out.size; have := HYn.out.size; omega)⟩
        have HA3 := hidM (hA1.kp2 (W := Y3) k12 (fun z hz => by omega) (Nat.le_refl _))
        have HY3 : Hid (Keeps Y3 w2 (fun z => z = p ∨ z = b)) := ((HYn.out.trans HK2.out (fun _ _ h => .inl h)).trans kA (fun j hj h => by have := hnew j h; omega)).trans k12 (fun _ _ h => .inr h)
        have HB3' := hidM hB3
        have HG3 := hidM kW2
        have t6 : w1.cell? ⟨b, 7, none⟩ = some (.slice no j nc) := by simp [World.cell?, hB2.tb]
        have q6 := frz hB2.tb 7
        clear hbnd hown hgrow hblk kA hnew kW hB2 hA1 k12 hB3 kW2 HO HSr HA1 z6 u0 u1
        go_wp2_with fail
        go_roundw
        case rel => exact ⟨j + 1, accn ++ [((k1 : Int), (k2 : Int))], τ2, no', nc', by omega, by simp, HL3.out, HA3.out, HB3'.out, HD3.out, HG3.out, Hgd2.out, HS1.out, HY3.out⟩
        case measure => simp [intOf]; omega
      · have he' : (τ.e == 0) = false := by simp [he]
        have HRl : Hid (RL = (accn, τ)) := HSn.out.symm.trans (sevX_stop he)
        have HBad := hidM he
        clear he
        have r0 : wr.cell? ⟨b + 1, 0, none⟩ = some (.int .i64 0) := by simp [World.cell?, HBn.out.rb]
        have q0 := frz HBn.out.rb 0
        have t0 : wr.cell? ⟨b, 0, none⟩ = some (.int .i64 hk) := by simp [World.cell?, HBn.out.tb]
        have r1 : wr.cell? ⟨b + 1, 1, none⟩ = some (.slice none 0 0) := by simp [World.cell?, HBn.out.rb]
        have q1 := frz HBn.out.rb 1
        have t1 : wr.cell? ⟨b, 1, none⟩ = some (.slice none 0 0) := by simp [World.cell?, HBn.out.tb]
        have r2 : wr.cell? ⟨b + 1, 2, none⟩ = some (.slice none 0 0) := by simp [World.cell?, HBn.out.rb]
        have q2 := frz HBn.out.rb 2
        have t2 : wr.cell? ⟨b, 2, none⟩ = some (.slice none 0 0) := by simp [World.cell?, HBn.out.tb]
        have r3 : wr.cell? ⟨b + 1, 3, none⟩ = some (.int .i64 0) := by simp [World.cell?, HBn.out.rb]
        have q3 := frz HBn.out.rb 3
        have t3 : wr.cell? ⟨b, 3, none⟩ = some (.int .i64 hi) := by simp [World.cell?, HBn.out.tb]
        have r4 : wr.cell? ⟨b + 1, 4, none⟩ = some (.bool false) := by simp [World.cell?, HBn.out.rb]
        have q4 := frz HBn.out.rb 4
        have t4 : wr.cell? ⟨b, 4, none⟩ = some (.bool hdl) := by simp [World.cell?, HBn.out.tb]
        have r5 : wr.cell? ⟨b + 1, 5, none⟩ = some (.int .i64 0) := by simp [World.cell?, HBn.out.rb]
        have q5 := frz HBn.out.rb 5
        have t5 : wr.cell? ⟨b, 5, none⟩ = some (.int .i64 (w5 : Int)) := by simp [World.cell?, HBn.out.tb]
        have r6 : wr.cell? ⟨b + 1, 6, none⟩ = some (.int .i64 0) := by simp [World.cell?, HBn.out.rb]
        have q6 := frz HBn.out.rb 6
        have t6 : wr.cell? ⟨b, 6, none⟩ = some (.int .i64 (w6 : Int)) := by simp [World.cell?, HBn.out.tb]
        have r7 : wr.cell? ⟨b + 1, 7, none⟩ = some (.slice none 0 0) := by simp [World.cell?, HBn.out.rb]
        have q7 := frz HBn.out.rb 7
        have t7 : wr.cell? ⟨b, 7, none⟩ = some (.slice no j nc) := by simp [World.cell?, HBn.out.tb]
        have r8 : wr.cell? ⟨b + 1, 8, none⟩ = some (.slice none 0 0) := by simp [World.cell?, HBn.out.rb]
        have q8 := frz HBn.out.rb 8
        have t8 : wr.cell? ⟨b, 8, none⟩ = some (.slice none 0 0) := by simp [World.cell?, HBn.out.tb]
        have hE1 := put9_box (.int .i64 hk) (.slice none 0 0) (.slice none 0 0) (.int .i64 hi) (.bool hdl) (.int .i64 (w5 : Int)) (.int .i64 (w6 : Int)) (.slice no j nc) (.slice none 0 0) HBn.out.rb
        have hE2 := put9_keeps wr (b + 1) (.int .i64 hk) (.slice none 0 0) (.slice none 0 0) (.int .i64 hi) (.bool hdl) (.int .i64 (w5 : Int)) (.int .i64 (w6 : Int)) (.slice no j nc) (.slice none 0 0)
        obtain ⟨X, hX⟩ : ∃ X, (((((((((wr.setCell ⟨b + 1, 0, none⟩ (.int .i64 hk)).setCell ⟨b + 1, 1, none⟩ (.slice none 0 0)).setCell ⟨b + 1, 2, none⟩ (.slice none 0 0)).setCell ⟨b + 1, 3, none⟩ (.int .i64 hi)).setCell ⟨b + 1, 4, none⟩ (.bool hdl)).setCell ⟨b + 1, 5, none⟩ (.int .i64 (w5 : Int))).setCell ⟨b + 1, 6, none⟩ (.int .i64 (w6 : Int))).setCell ⟨b + 1, 7, none⟩ (.slice no j nc)).setCell ⟨b + 1, 8, none⟩ (.slice none 0 0)) = X := ⟨_, rfl⟩
        rw [hX] at hE1 hE2
        have HE1 := hidM hE1
        have HE2 := hidM hE2
        clear hE1 hE2
        go_wp2_with fail
        have kX : Keeps W X (fun z => z = p) := HGn.out.trans HE2.out fun j hj e => by have := HVb.out; omega
        have dX := DAt.over HW0.out HDn.out kX (HE2.out.block p HDn.out.lt (by have := HVb.out; omega))
        (try simp only [Exit.inBlock, Exit.then])
        refine bodyPost_ret (results_cell30 rfl rfl HE1.out (by kernel_rfl)) rfl ?_
        have hend : BVx hk hi hdl W X (w5, w6, accn, []) (.agg #[.int .i64 hk, .slice none 0 0, .slice none 0 0, .int .i64 hi, .bool hdl, .int .i64 (w5 : Int), .int .i64 (w6 : Int), .slice no j nc, .slice none 0 0]) := by
          refine ⟨no, nc, none, 0, ?_, HN.out.kp2 HE2.out (fun z hz => by have := HBd.out; omega) (by have := HBd.out; omega), LAt.nil _ _ _ _ _⟩
          show _ = Value.agg #[.int .i64 hk, .slice none 0 0, .slice none 0 0, .int .i64 hi, .bool hdl, .int .i64 (w5 : Int), .int .i64 (w6 : Int), .slice no accn.length nc, .slice none 0 0]
          rw [HL2.out]
        have hfin : r = ((w5, w6, accn, []), τ) := by rw [HRr.out, HRl.out]; dsimp only; rw [numX_bad HBad.out]; rfl
        rw [hfin]
        exact ⟨_, rfl, hend, dX, kX⟩
    · have hjn : j = n1 := by omega
      have HRl : Hid (RL = (accn, τ)) := by have := HSn.out; rw [hjn, Nat.sub_self] at this; exact this.symm
      have hltJ : ¬ (j : Int) < (n1 : Int) := by omega
      clear hjn hltn
      obtain ⟨⟨n2, s5⟩, hq4⟩ : ∃ q, numX B 2 τ = q := ⟨_, rfl⟩
      obtain ⟨RN, hRN⟩ : ∃ RN, sevX (slotX B) n2 [] s5 = RN := ⟨_, rfl⟩
      have hn2 : n2 < 4294967296 := by have := numX_lt B 2 (by omega) τ; rw [hq4] at this; exact this
      have Hg5 : Hid (Gd s5) := by have := Hgn.out.num (B := B) (n := 2); rw [hq4] at this; exact this
      have HRf : Hid (r = ((w5, w6, accn, RN.1), RN.2)) := by
        show _ = _
        rw [HRr.out, HRl.out]
        simp only [hq4, hRN]
      have Hq4 := hidM hq4
      have HT1 : Hid (sevX (slotX B) (n2 - 0) [] s5 = RN) := hRN
      have HL := HL2
      clear hq4 hRN m0 m1 m2 m3 m4 m5 HRl HRr HL2
      go_wp2_with (go_at_call 17; refine Hid.out ?_)
      unfold Hid
      have hc := number17 p bo B bc 2 (by omega) wr τ HDn.out
      rw [Hq4.out] at hc
      dsimp only at hc
      refine Calls.mono hc ?_
      rintro e Y4 ⟨v, rfl, rfl, hD, hK⟩
      have hB4 := HBn.out.kp hK
      have HB4 := hidM hB4
      have HG4 := hidM (HGn.out.trans hK (fun _ _ h => h))
      have HD4 := hidM hD
      have HNd := hidM (HN.out.kp hK (by have := HBd.out; omega))
      have HBd2 : Hid (V.heap.size = b + 1 + 1 ∧ b = W.heap.size ∧ p < W.heap.size ∧ V.heap.size ≤ Y4.heap.size) := ⟨HVb.out.1, HVb.out.2.1, HVb.out.2.2, by have := lt_of_heap hB4.rb; have := HVb.out; omega⟩
      clear hc hD hK hB4 HN HBn HGn HDn HSn HYn Hgn
      obtain ⟨vo, hz_vo⟩ : ∃ x, x = no := ⟨_, rfl⟩
      subst hz_vo
      obtain ⟨vc, hz_vc⟩ : ∃ x, x = nc := ⟨_, rfl⟩
      subst hz_vc
      obtain ⟨k, hz_k⟩ : ∃ x, x = j := ⟨_, rfl⟩
      subst hz_k
      obtain ⟨acc, hz_acc⟩ : ∃ x, x = accn := ⟨_, rfl⟩
      subst hz_acc
      obtain ⟨σ, hz_σ⟩ : ∃ x, x = τ := ⟨_, rfl⟩
      subst hz_σ
      go_wp2
      go_loopw [8] (fun i wr => ∃ (j : Nat) (accn : List (Int × Int × Int)) (τ : DS) (no : Option Addr) (nc : Nat), j ≤ n2 ∧ i = .int .i64 (j : Int) ∧ Hid (accn.length = j) ∧ Hid (LAt Y4 wr 64 3 (fun x : Int × Int × Int => [Value.int .i64 x.1, .int .i64 x.2.1, .int .i64 x.2.2]) accn no nc) ∧ Hid (HB18 W wr p b (.int .i64 hk) (.slice none 0 0) (.slice none 0 0) (.int .i64 hi) (.bool hdl) (.int .i64 (w5 : Int)) (.int .i64 (w6 : Int)) (.slice vo k vc) (.slice no j nc)) ∧ Hid (DAt wr p bo B bc τ) ∧ Hid (Keeps W wr (fun z => z = p)) ∧ Hid (Gd τ) ∧ Hid (sevX (slotX B) (n2 - j) accn τ = RN) ∧ Hid (Keeps Y4 wr (fun z => z = p ∨ z = b))) (fun i _ => n2 - (intOf i).toNat)
      case atStart => exact ⟨0, [], s5, none, 0, Nat.zero_le _, rfl, rfl, LAt.nil _ _ _ _ _, HB4.out, HD4.out, HG4.out, Hg5.out, HT1.out, Keeps.refl _ _⟩
      case round =>
        obtain ⟨j, accn, τ, no, nc, hj, rfl, HL2, HN, HBn, HDn, HGn, Hgn, HSn, HYn⟩ := hrel
        have hjb : j ≤ 4294967296 := by omega
        obtain ⟨m0, m1, m2, m3, m4, m5⟩ := HDn.out.cells
        by_cases hltn : j < n2
        · have hltJ : (j : Int) < (n2 : Int) := by omega
          by_cases he : τ.e = 0
          · rw [he] at m3
            obtain ⟨⟨k1, τ1⟩, hi0⟩ : ∃ q, numX B 4 τ = q := ⟨_, rfl⟩
            obtain ⟨⟨k2, τ2⟩, hi1⟩ : ∃ q, numX B 4 τ1 = q := ⟨_, rfl⟩
            obtain ⟨⟨k3, τ3⟩, hi2⟩ : ∃ q, numX B 4 τ2 = q := ⟨_, rfl⟩
            have hpx : (slotX B) τ = (((k1 : Int), (k2 : Int), (k3 : Int)), τ3) := by unfold slotX; simp only [hi0]; simp only [hi1]; simp only [hi2]
            have HS1 : Hid (sevX (slotX B) (n2 - (j + 1)) (accn ++ [((k1 : Int), (k2 : Int), (k3 : Int))]) τ3 = RN) := (sevX_next hltn he hpx).symm.trans HSn.out
            have Hgd2 : Hid (Gd τ3) := by have := Gd.slot (B := B) Hgn.out; rw [hpx] at this; exact this
            have Hi0 := hidM hi0
            have Hi1 := hidM hi1
            have Hi2 := hidM hi2
            clear hpx he hi0 hi1 hi2
            obtain ⟨cc, hcc⟩ : ∃ cc, cc = wr.heap.size := ⟨_, rfl⟩
            obtain ⟨Z0, hZ0⟩ : ∃ Z0, wr.alloc (.cells #[.int .i64 0, .int .i64 0, .int .i64 0] 64) = Z0 := ⟨_, rfl⟩
            have gZ : Gr wr Z0 := by rw [← hZ0]; exact gr_alloc wr _
            have hx0 := heap_alloc_new wr (.cells #[.int .i64 0, .int .i64 0, .int .i64 0] 64)
            rw [hZ0, ← hcc] at hx0
            have HX0 := hidM hx0
            have HK0 : Hid (Keeps wr Z0 (fun z => z = p)) := gZ.mono fun _ _ h => h.elim
            have HDz0 := hidM (HDn.out.gr gZ)
            have Hcc := hidM hcc
            have HZ0 := hidM hZ0
            clear gZ hx0 hcc hZ0
            go_wp2_with (go_at_call 17; refine Hid.out ?_)
            unfold Hid
            rw [HZ0.out, ← Hcc.out]
            clear HZ0 m0 m1 m2 m3 m4 m5
            have hc := (number17 p bo B bc 4 (by omega)) Z0 τ HDz0.out
            rw [Hi0.out] at hc
            dsimp only at hc
            refine Calls.mono hc ?_
            rintro e T0 ⟨v, rfl, rfl, hD, hK⟩
            have hx := (hK.block cc (lt_of_heap HX0.out) (by have := HDn.out.lt; have := Hcc.out; omega)).trans HX0.out
            have e0 : T0.cell? ⟨cc, 0, none⟩ = some (.int .i64 0) := by simp [World.cell?, hx]
            have g0 := frz hx 0
            obtain ⟨Z1, hZ1⟩ : ∃ Z', T0.setCell ⟨cc, 0, none⟩ (.int .i64 (k1 : Int)) = Z' := ⟨_, rfl⟩
            have hx' : Z1.heap[cc]? = some (.cells #[.int .i64 (k1 : Int), .int .i64 0, .int .i64 0] 64 (0, 0)) := by rw [← hZ1, heap_setCell_same T0 cc 0 _ _ _ hx]; rfl
            have kk1 := HK0.out.trans hK (fun _ _ h => h)
            have kk2 := kp_set kk1 (show wr.heap.size ≤ cc by have := Hcc.out; omega) 0 (.int .i64 (k1 : Int))
            have dd2 := DAt.set HDn.out hD kk1 (show wr.heap.size ≤ cc by have := Hcc.out; omega) 0 (.int .i64 (k1 : Int))
            rw [hZ1] at kk2 dd2
            have HX1 := hidM hx'
            have HK1 := hidM kk2
            have HDz1 := hidM dd2
            clear hc hD hK hx hx' kk1 kk2 dd2
            go_wp2_with (go_at_call 17; refine Hid.out ?_)
            unfold Hid
            have hc := (number17 p bo B bc 4 (by omega)) Z1 τ1 HDz1.out
            rw [Hi1.out] at hc
            dsimp only at hc
            refine Calls.mono hc ?_
            rintro e T1 ⟨v, rfl, rfl, hD, hK⟩
            have hx := (hK.block cc (lt_of_heap HX1.out) (by have := HDn.out.lt; have := Hcc.out; omega)).trans HX1.out
            have e1 : T1.cell? ⟨cc, 1, none⟩ = some (.int .i64 0) := by simp [World.cell?, hx]
            have g1 := frz hx 1
            obtain ⟨Z2, hZ2⟩ : ∃ Z', T1.setCell ⟨cc, 1, none⟩ (.int .i64 (k2 : Int)) = Z' := ⟨_, rfl⟩
            have hx' : Z2.heap[cc]? = some (.cells #[.int .i64 (k1 : Int), .int .i64 (k2 : Int), .int .i64 0] 64 (0, 0)) := by rw [← hZ2, heap_setCell_same T1 cc 1 _ _ _ hx]; rfl
            have kk1 := HK1.out.trans hK (fun _ _ h => h)
            have kk2 := kp_set kk1 (show wr.heap.size ≤ cc by have := Hcc.out; omega) 1 (.int .i64 (k2 : Int))
            have dd2 := DAt.set HDn.out hD kk1 (show wr.heap.size ≤ cc by have := Hcc.out; omega) 1 (.int .i64 (k2 : Int))
            rw [hZ2] at kk2 dd2
            have HX2 := hidM hx'
            have HK2 := hidM kk2
            have HDz2 := hidM dd2
            clear hc hD hK hx hx' kk1 kk2 dd2
            go_wp2_with (go_at_call 17; refine Hid.out ?_)
            unfold Hid
            have hc := (number17 p bo B bc 4 (by omega)) Z2 τ2 HDz2.out
            rw [Hi2.out] at hc
            dsimp only at hc
            refine Calls.mono hc ?_
            rintro e T2 ⟨v, rfl, rfl, hD, hK⟩
            have hx := (hK.block cc (lt_of_heap HX2.out) (by have := HDn.out.lt; have := Hcc.out; omega)).trans HX2.out
            have e2 : T2.cell? ⟨cc, 2, none⟩ = some (.int .i64 0) := by simp [World.cell?, hx]
            have g2 := frz hx 2
            obtain ⟨Z3, hZ3⟩ : ∃ Z', T2.setCell ⟨cc, 2, none⟩ (.int .i64 (k3 : Int)) = Z' := ⟨_, rfl⟩
            have hx' : Z3.heap[cc]? = some (.cells #[.int .i64 (k1 : Int), .int .i64 (k2 : Int), .int .i64 (k3 : Int)] 64 (0, 0)) := by rw [← hZ3, heap_setCell_same T2 cc 2 _ _ _ hx]; rfl
            have kk1 := HK2.out.trans hK (fun _ _ h => h)
            have kk2 := kp_set kk1 (show wr.heap.size ≤ cc by have := Hcc.out; omega) 2 (.int .i64 (k3 : Int))
            have dd2 := DAt.set HDn.out hD kk1 (show wr.heap.size ≤ cc by have := Hcc.out; omega) 2 (.int .i64 (k3 : Int))
            rw [hZ3] at kk2 dd2
            have HX3 := hidM hx'
            have HK3 := hidM kk2
            have HDz3 := hidM dd2
            clear hc hD hK hx hx' kk1 kk2 dd2
            have HA1 := hidM (HN.out.kp HK3.out (by have := HBd2.out; omega))
            have hB1 := HBn.out.kp HK3.out
            have HB1 := hidM hB1
            have HG1 := hidM (HGn.out.trans HK3.out (fun _ _ h => h))
            have HSr := hidM (src64 Z3 (k1 : Int) (k2 : Int) (k3 : Int) )
            have HO : Hid ((Z3.alloc (.cells #[.int .i64 (k1 : Int), .int .i64 (k2 : Int), .int .i64 (k3 : Int)] 64)).ownsRow 0 64 3 (.slice no j nc) j (accn.flatMap (fun x : Int × Int × Int => [Value.int .i64 x.1, .int .i64 x.2.1, .int .i64 x.2.2]))) := by have := HA1.out.own.alloc (.cells #[.int .i64 (k1 : Int), .int .i64 (k2 : Int), .int .i64 (k3 : Int)] 64); rwa [HL2.out] at this
            have z6 : Z3.cell? ⟨b, 8, none⟩ = some (.slice no j nc) := by simp [World.cell?, hB1.tb]
            have u0 : Z3.cell? ⟨cc, 0, none⟩ = some (.int .i64 (k1 : Int)) := by simp [World.cell?, HX3.out]
            have u1 : Z3.cell? ⟨cc, 1, none⟩ = some (.int .i64 (k2 : Int)) := by simp [World.cell?, HX3.out]
            have u2 : Z3.cell? ⟨cc, 2, none⟩ = some (.int .i64 (k3 : Int)) := by simp [World.cell?, HX3.out]
            clear hB1 e0 g0 e1 g1
            go_wp2_with (with_reducible show wpList Tryd.prog _ _ (Oper.mk (some 69) _ _ _ _ _ :: _) _ _; refine Hid.out ?_)
            unfold Hid
            refine wpList_append_anyN (P := Tryd.prog) _ rfl (.tmp 66) (.tmp 68) 28 28 rfl 64 (.agg #[.int .i64 0, .int .i64 0, .int .i64 0]) 3 24 Tryd.underlying28 info64 rfl _ _ _ rfl HO.out _ _ _ rfl HSr.out (by omega) (by omega) ?_
            refine Hid.out ?_
            unfold Hid
            intro v' w1 hown hgrow hblk
            obtain ⟨no', nc', rfl⟩ := own_formK hown
            have hbnd := HBd2.out
            have kA : Keeps Z3 w1 (fun z => (Value.slice no j nc).ownBlock = some z) := ((gr_alloc Z3 _).mono fun _ _ h => h.elim).trans (Keeps.ofGrown hgrow) (fun _ _ h => h)
            have hnew : ∀ g, (Value.slice no j nc).ownBlock = some g → Y4.heap.size ≤ g := fun g e => HA1.out.new g (by rw [HL2.out]; exact e)
            have kW : Keeps W w1 (fun z => z = p) := HG1.out.trans kA (fun j hj h => by have := hnew j h; omega)
            have hB2 := (show HB18 W w1 p b (.int .i64 hk) (.slice none 0 0) (.slice none 0 0) (.int .i64 hi) (.bool hdl) (.int .i64 (w5 : Int)) (.int .i64 (w6 : Int)) (.slice vo k vc) (.slice no j nc) from ⟨(kA.block b (lt_of_heap HB1.out.tb) (fun h => by have := hnew b h; omega)).trans HB1.out.tb, (kA.block (b + 1) (lt_of_heap HB1.out.rb) (fun h => by have := hnew (b + 1) h; omega)).trans HB1.out.rb, HB1.out.lt⟩)
            obtain ⟨w2, hw2⟩ : ∃ w2, w1.setCell ⟨b, 8, none⟩ (.slice no' (j + 1) nc') = w2 := ⟨_, rfl⟩
            have k12 : Keeps w1 w2 (fun z => z = b) := by rw [← hw2]; exact (Keeps.refl w1 (fun z => z = b)).setCell (p := ⟨b, 8, none⟩) (fun _ => rfl) _
            have hB3 := hB2.set (y0 := (.int .i64 hk)) (y1 := (.slice none 0 0)) (y2 := (.slice none 0 0)) (y3 := (.int .i64 hi)) (y4 := (.bool hdl)) (y5 := (.int .i64 (w5 : Int))) (y6 := (.int .i64 (w6 : Int))) (y7 := (.slice vo k vc)) (y8 := (.slice no' (j + 1) nc')) 8 (.slice no' (j + 1) nc') rfl
            rw [hw2] at hB3
            have kW2 : Keeps W w2 (fun z => z = p) := kW.trans k12 fun j hj e => by omega
            have HD3 := hidM (DAt.over HW0.out HDz3.out kW2 ((k12.block p (Nat.lt_of_lt_of_le HDz3.out.lt kA.size) (by omega)).trans (kA.block p HDz3.out.lt (fun h => by have := hnew p h; omega))))
            have HL3 : Hid ((accn ++ [((k1 : Int), (k2 : Int), (k3 : Int))]).length = j + 1) := by show _ = _; rw [List.length_append, HL2.out]; rfl
            have hA1 : LAt Y4 w1 64 3 (fun x : Int × Int × Int => [Value.int .i64 x.1, .int .i64 x.2.1, .int .i64 x.2.2]) (accn ++ [((k1 : Int), (k2 : Int), (k3 : Int))]) no' nc' := ⟨by rw [HL3.out, List.flatMap_append]; simpa using hown, fun g e => by rw [HL3.out] at e; exact hblk.elim (fun q => hnew g (q ▸ e)) (fun q => by have := q g e; have := (gr_alloc Z3 (.cells #[.int .i64 (k1 : Int), .int .i64 (k2 : Int), .int .i64 (k3 : Int)] 64)).size; have := HK3.out.size; have := HYn.out.size; omega)⟩
            have HA3 := hidM (hA1.kp2 (W := Y4) k12 (fun z hz => by omega) (Nat.le_refl _))
            have HY3 : Hid (Keeps Y4 w2 (fun z => z = p ∨ z = b)) := ((HYn.out.trans HK3.out (fun _ _ h => .inl h)).trans kA (fun j hj h => by have := hnew j h; omega)).trans k12 (fun _ _ h => .inr h)
            have HB3' := hidM hB3
            have HG3 := hidM kW2
            have t6 : w1.cell? ⟨b, 8, none⟩ = some (.slice no j nc) := by simp [World.cell?, hB2.tb]
            have q6 := frz hB2.tb 8
            clear hbnd hown hgrow hblk kA hnew kW hB2 hA1 k12 hB3 kW2 HO HSr HA1 z6 u0 u1 u2
            go_wp2_with fail
            go_roundw
            case rel => exact ⟨j + 1, accn ++ [((k1 : Int), (k2 : Int), (k3 : Int))], τ3, no', nc', by omega, by simp, HL3.out, HA3.out, HB3'.out, HD3.out, HG3.out, Hgd2.out, HS1.out, HY3.out⟩
            case measure => simp [intOf]; omega
          · have he' : (τ.e == 0) = false := by simp [he]
            have HRl : Hid (RN = (accn, τ)) := HSn.out.symm.trans (sevX_stop he)
            have HBad := hidM he
            clear he
            have r0 : wr.cell? ⟨b + 1, 0, none⟩ = some (.int .i64 0) := by simp [World.cell?, HBn.out.rb]
            have q0 := frz HBn.out.rb 0
            have t0 : wr.cell? ⟨b, 0, none⟩ = some (.int .i64 hk) := by simp [World.cell?, HBn.out.tb]
            have r1 : wr.cell? ⟨b + 1, 1, none⟩ = some (.slice none 0 0) := by simp [World.cell?, HBn.out.rb]
            have q1 := frz HBn.out.rb 1
            have t1 : wr.cell? ⟨b, 1, none⟩ = some (.slice none 0 0) := by simp [World.cell?, HBn.out.tb]
            have r2 : wr.cell? ⟨b + 1, 2, none⟩ = some (.slice none 0 0) := by simp [World.cell?, HBn.out.rb]
            have q2 := frz HBn.out.rb 2
            have t2 : wr.cell? ⟨b, 2, none⟩ = some (.slice none 0 0) := by simp [World.cell?, HBn.out.tb]
            have r3 : wr.cell? ⟨b + 1, 3, none⟩ = some (.int .i64 0) := by simp [World.cell?, HBn.out.rb]
            have q3 := frz HBn.out.rb 3
            have t3 : wr.cell? ⟨b, 3, none⟩ = some (.int .i64 hi) := by simp [World.cell?, HBn.out.tb]
            have r4 : wr.cell? ⟨b + 1, 4, none⟩ = some (.bool false) := by simp [World.cell?, HBn.out.rb]
            have q4 := frz HBn.out.rb 4
            have t4 : wr.cell? ⟨b, 4, none⟩ = some (.bool hdl) := by simp [World.cell?, HBn.out.tb]
            have r5 : wr.cell? ⟨b + 1, 5, none⟩ = some (.int .i64 0) := by simp [World.cell?, HBn.out.rb]
            have q5 := frz HBn.out.rb 5
            have t5 : wr.cell? ⟨b, 5, none⟩ = some (.int .i64 (w5 : Int)) := by simp [World.cell?, HBn.out.tb]
            have r6 : wr.cell? ⟨b + 1, 6, none⟩ = some (.int .i64 0) := by simp [World.cell?, HBn.out.rb]
            have q6 := frz HBn.out.rb 6
            have t6 : wr.cell? ⟨b, 6, none⟩ = some (.int .i64 (w6 : Int)) := by simp [World.cell?, HBn.out.tb]
            have r7 : wr.cell? ⟨b + 1, 7, none⟩ = some (.slice none 0 0) := by simp [World.cell?, HBn.out.rb]
            have q7 := frz HBn.out.rb 7
            have t7 : wr.cell? ⟨b, 7, none⟩ = some (.slice vo k vc) := by simp [World.cell?, HBn.out.tb]
            have r8 : wr.cell? ⟨b + 1, 8, none⟩ = some (.slice none 0 0) := by simp [World.cell?, HBn.out.rb]
            have q8 := frz HBn.out.rb 8
            have t8 : wr.cell? ⟨b, 8, none⟩ = some (.slice no j nc) := by simp [World.cell?, HBn.out.tb]
            have hE1 := put9_box (.int .i64 hk) (.slice none 0 0) (.slice none 0 0) (.int .i64 hi) (.bool hdl) (.int .i64 (w5 : Int)) (.int .i64 (w6 : Int)) (.slice vo k vc) (.slice no j nc) HBn.out.rb
            have hE2 := put9_keeps wr (b + 1) (.int .i64 hk) (.slice none 0 0) (.slice none 0 0) (.int .i64 hi) (.bool hdl) (.int .i64 (w5 : Int)) (.int .i64 (w6 : Int)) (.slice vo k vc) (.slice no j nc)
            obtain ⟨X, hX⟩ : ∃ X, (((((((((wr.setCell ⟨b + 1, 0, none⟩ (.int .i64 hk)).setCell ⟨b + 1, 1, none⟩ (.slice none 0 0)).setCell ⟨b + 1, 2, none⟩ (.slice none 0 0)).setCell ⟨b + 1, 3, none⟩ (.int .i64 hi)).setCell ⟨b + 1, 4, none⟩ (.bool hdl)).setCell ⟨b + 1, 5, none⟩ (.int .i64 (w5 : Int))).setCell ⟨b + 1, 6, none⟩ (.int .i64 (w6 : Int))).setCell ⟨b + 1, 7, none⟩ (.slice vo k vc)).setCell ⟨b + 1, 8, none⟩ (.slice no j nc)) = X := ⟨_, rfl⟩
            rw [hX] at hE1 hE2
            have HE1 := hidM hE1
            have HE2 := hidM hE2
            clear hE1 hE2
            go_wp2_with fail
            have kX : Keeps W X (fun z => z = p) := HGn.out.trans HE2.out fun j hj e => by have := HVb.out; omega
            have dX := DAt.over HW0.out HDn.out kX (HE2.out.block p HDn.out.lt (by have := HVb.out; omega))
            (try simp only [Exit.inBlock, Exit.then])
            refine bodyPost_ret (results_cell30 rfl rfl HE1.out (by kernel_rfl)) rfl ?_
            have hend : BVx hk hi hdl W X (w5, w6, acc, accn) (.agg #[.int .i64 hk, .slice none 0 0, .slice none 0 0, .int .i64 hi, .bool hdl, .int .i64 (w5 : Int), .int .i64 (w6 : Int), .slice vo k vc, .slice no j nc]) := by
              have hVb := HVb.out
              refine ⟨vo, vc, no, nc, ?_, ?_, HN.out.kp2 HE2.out (fun z hz => by have := HBd2.out; omega) (by have := HBd2.out; omega)⟩
              · show _ = Value.agg #[.int .i64 hk, .slice none 0 0, .slice none 0 0, .int .i64 hi, .bool hdl, .int .i64 (w5 : Int), .int .i64 (w6 : Int), .slice vo acc.length vc, .slice no accn.length nc]
                rw [HL.out, HL2.out]
              · exact ((HNd.out.kp2 (W := Y3) HYn.out (fun z hz => by have := HBd.out; omega) (Nat.le_refl _)).kp2 (W := W) HE2.out (fun z hz => by have := HBd.out; omega) (by have := HBd.out; omega))
            rw [HRf.out, HRl.out]
            exact ⟨_, rfl, hend, dX, kX⟩
        · have hjn : j = n2 := by omega
          have HRl : Hid (RN = (accn, τ)) := by have := HSn.out; rw [hjn, Nat.sub_self] at this; exact this.symm
          have hltJ : ¬ (j : Int) < (n2 : Int) := by omega
          clear hjn hltn
          have r0 : wr.cell? ⟨b + 1, 0, none⟩ = some (.int .i64 0) := by simp [World.cell?, HBn.out.rb]
          have q0 := frz HBn.out.rb 0
          have t0 : wr.cell? ⟨b, 0, none⟩ = some (.int .i64 hk) := by simp [World.cell?, HBn.out.tb]
          have r1 : wr.cell? ⟨b + 1, 1, none⟩ = some (.slice none 0 0) := by simp [World.cell?, HBn.out.rb]
          have q1 := frz HBn.out.rb 1
          have t1 : wr.cell? ⟨b, 1, none⟩ = some (.slice none 0 0) := by simp [World.cell?, HBn.out.tb]
          have r2 : wr.cell? ⟨b + 1, 2, none⟩ = some (.slice none 0 0) := by simp [World.cell?, HBn.out.rb]
          have q2 := frz HBn.out.rb 2
          have t2 : wr.cell? ⟨b, 2, none⟩ = some (.slice none 0 0) := by simp [World.cell?, HBn.out.tb]
          have r3 : wr.cell? ⟨b + 1, 3, none⟩ = some (.int .i64 0) := by simp [World.cell?, HBn.out.rb]
          have q3 := frz HBn.out.rb 3
          have t3 : wr.cell? ⟨b, 3, none⟩ = some (.int .i64 hi) := by simp [World.cell?, HBn.out.tb]
          have r4 : wr.cell? ⟨b + 1, 4, none⟩ = some (.bool false) := by simp [World.cell?, HBn.out.rb]
          have q4 := frz HBn.out.rb 4
          have t4 : wr.cell? ⟨b, 4, none⟩ = some (.bool hdl) := by simp [World.cell?, HBn.out.tb]
          have r5 : wr.cell? ⟨b + 1, 5, none⟩ = some (.int .i64 0) := by simp [World.cell?, HBn.out.rb]
          have q5 := frz HBn.out.rb 5
          have t5 : wr.cell? ⟨b, 5, none⟩ = some (.int .i64 (w5 : Int)) := by simp [World.cell?, HBn.out.tb]
          have r6 : wr.cell? ⟨b + 1, 6, none⟩ = some (.int .i64 0) := by simp [World.cell?, HBn.out.rb]
          have q6 := frz HBn.out.rb 6
          have t6 : wr.cell? ⟨b, 6, none⟩ = some (.int .i64 (w6 : Int)) := by simp [World.cell?, HBn.out.tb]
          have r7 : wr.cell? ⟨b + 1, 7, none⟩ = some (.slice none 0 0) := by simp [World.cell?, HBn.out.rb]
          have q7 := frz HBn.out.rb 7
          have t7 : wr.cell? ⟨b, 7, none⟩ = some (.slice vo k vc) := by simp [World.cell?, HBn.out.tb]
          have r8 : wr.cell? ⟨b + 1, 8, none⟩ = some (.slice none 0 0) := by simp [World.cell?, HBn.out.rb]
          have q8 := frz HBn.out.rb 8
          have t8 : wr.cell? ⟨b, 8, none⟩ = some (.slice no j nc) := by simp [World.cell?, HBn.out.tb]
          have hE1 := put9_box (.int .i64 hk) (.slice none 0 0) (.slice none 0 0) (.int .i64 hi) (.bool hdl) (.int .i64 (w5 : Int)) (.int .i64 (w6 : Int)) (.slice vo k vc) (.slice no j nc) HBn.out.rb
          have hE2 := put9_keeps wr (b + 1) (.int .i64 hk) (.slice none 0 0) (.slice none 0 0) (.int .i64 hi) (.bool hdl) (.int .i64 (w5 : Int)) (.int .i64 (w6 : Int)) (.slice vo k vc) (.slice no j nc)
          obtain ⟨X, hX⟩ : ∃ X, (((((((((wr.setCell ⟨b + 1, 0, none⟩ (.int .i64 hk)).setCell ⟨b + 1, 1, none⟩ (.slice none 0 0)).setCell ⟨b + 1, 2, none⟩ (.slice none 0 0)).setCell ⟨b + 1, 3, none⟩ (.int .i64 hi)).setCell ⟨b + 1, 4, none⟩ (.bool hdl)).setCell ⟨b + 1, 5, none⟩ (.int .i64 (w5 : Int))).setCell ⟨b + 1, 6, none⟩ (.int .i64 (w6 : Int))).setCell ⟨b + 1, 7, none⟩ (.slice vo k vc)).setCell ⟨b + 1, 8, none⟩ (.slice no j nc)) = X := ⟨_, rfl⟩
          rw [hX] at hE1 hE2
          have HE1 := hidM hE1
          have HE2 := hidM hE2
          clear hE1 hE2
          go_wp2_with fail
          have kX : Keeps W X (fun z => z = p) := HGn.out.trans HE2.out fun j hj e => by have := HVb.out; omega
          have dX := DAt.over HW0.out HDn.out kX (HE2.out.block p HDn.out.lt (by have := HVb.out; omega))
          (try simp only [Exit.inBlock, Exit.then])
          refine bodyPost_ret (results_cell30 rfl rfl HE1.out (by kernel_rfl)) rfl ?_
          have hend : BVx hk hi hdl W X (w5, w6, acc, accn) (.agg #[.int .i64 hk, .slice none 0 0, .slice none 0 0, .int .i64 hi, .bool hdl, .int .i64 (w5 : Int), .int .i64 (w6 : Int), .slice vo k vc, .slice no j nc]) := by
            have hVb := HVb.out
            refine ⟨vo, vc, no, nc, ?_, ?_, HN.out.kp2 HE2.out (fun z hz => by have := HBd2.out; omega) (by have := HBd2.out; omega)⟩
            · show _ = Value.agg #[.int .i64 hk, .slice none 0 0, .slice none 0 0, .int .i64 hi, .bool hdl, .int .i64 (w5 : Int), .int .i64 (w6 : Int), .slice vo acc.length vc, .slice no accn.length nc]
              rw [HL.out, HL2.out]
            · exact ((HNd.out.kp2 (W := Y3) HYn.out (fun z hz => by have := HBd.out; omega) (Nat.le_refl _)).kp2 (W := W) HE2.out (fun z hz => by have := HBd.out; omega) (by have := HBd.out; omega))
          rw [HRf.out, HRl.out]
          exact ⟨_, rfl, hend, dX, kX⟩
end Go.Proofs.YtdffjdlpbfcikaaDoor.Kit
namespace Go.Proofs.YtdffjdlpbfcikaaDoor.Kit
open Go.RowKit Go.Shelf Go.Deep
set_option linter.unusedVariables false

/-! ### both readers read the same -/
structure Rel {α : Type} (x : DS → α × DS) (r : Rd α) : Prop where
  ok : ∀ s v s', s.e = 0 → r (s.a, s.g) = .ok (v, s') → x s = (v, { s with a := s'.1, g := s'.2 })
  er : ∀ s e, s.e = 0 → r (s.a, s.g) = .error e → (x s).2.e = e.1 ∧ (x s).2.f = e.2 ∧ e.1 ≠ 0
  bad : ∀ s, s.e ≠ 0 → (x s).2.e = s.e ∧ (x s).2.f = s.f
theorem Rel.bind {α β : Type} {x : DS → α × DS} {r : Rd α} {y : α → DS → β × DS} {f : α → Rd β} (h : Rel x r) (hy : ∀ v, Rel (y v) (f v)) : Rel (fun s => y (x s).1 (x s).2) (r.bind f) := by
  refine ⟨fun s v s' he hr => ?_, fun s e he hr => ?_, fun s he => ?_⟩
  · cases hq : r (s.a, s.g) with
    | error e => rw [Rd.bind_err hq] at hr; cases hr
    | ok q =>
      obtain ⟨u, t⟩ := q
      rw [Rd.bind_ok hq] at hr
      have h1 := h.ok s u t he hq
      show y (x s).1 (x s).2 = _
      rw [h1]
      exact (hy u).ok { s with a := t.1, g := t.2 } v s' he hr
  · cases hq : r (s.a, s.g) with
    | error e' =>
      rw [Rd.bind_err hq] at hr
      cases hr
      obtain ⟨h1, h2, h3⟩ := h.er s _ he hq
      obtain ⟨h4, h5⟩ := (hy (x s).1).bad (x s).2 (by rw [h1]; exact h3)
      exact ⟨h4.trans h1, h5.trans h2, h3⟩
    | ok q =>
      obtain ⟨u, t⟩ := q
      rw [Rd.bind_ok hq] at hr
      have h1 := h.ok s u t he hq
      show (y (x s).1 (x s).2).2.e = _ ∧ (y (x s).1 (x s).2).2.f = _ ∧ _
      rw [h1]
      exact (hy u).er { s with a := t.1, g := t.2 } e he hr
  · obtain ⟨h1, h2⟩ := h.bad s he
    obtain ⟨h3, h4⟩ := (hy (x s).1).bad (x s).2 (by rw [h1]; exact he)
    exact ⟨h3.trans h1, h4.trans h2⟩
theorem Rel.pure {α : Type} (v : α) : Rel (fun s => (v, s)) (Rd.pure v) := by
  refine ⟨fun s v' s' he hr => ?_, fun s e he hr => (by cases hr), fun s he => ⟨rfl, rfl⟩⟩
  unfold Rd.pure at hr
  cases hr
  rfl
theorem rel_num (B : List UInt8) (k : Nat) : Rel (numX B k) (numR B k) := by
  refine ⟨fun s v s' he hr => ?_, fun s e he hr => ?_, fun s he => by rw [numX_bad he]; exact ⟨rfl, rfl⟩⟩
  · unfold numR at hr
    dsimp only at hr
    by_cases c : s.a + k ≤ B.length
    · rw [if_pos c] at hr
      cases hr
      unfold numX takeX
      rw [if_neg (by simp [he]), if_neg (by omega)]
    · rw [if_neg c] at hr; cases hr
  · unfold numR at hr
    dsimp only at hr
    by_cases c : s.a + k ≤ B.length
    · rw [if_pos c] at hr; cases hr
    · rw [if_neg c] at hr
      cases hr
      unfold numX takeX
      rw [if_neg (by simp [he]), if_pos (by omega)]
      exact ⟨rfl, rfl, fun h => by cases h⟩
theorem rel_bytes (B : List UInt8) (n : Nat) : Rel (fun s => ((⟨(takeX B n s).1.toArray⟩ : ByteArray), (takeX B n s).2)) (bytesR B n) := by
  refine ⟨fun s v s' he hr => ?_, fun s e he hr => ?_, fun s he => by unfold takeX; rw [if_pos he]; exact ⟨rfl, rfl⟩⟩
  · unfold bytesR at hr
    dsimp only at hr
    by_cases c : s.a + n ≤ B.length
    · rw [if_pos c] at hr
      cases hr
      unfold takeX
      rw [if_neg (by simp [he]), if_neg (by omega)]
    · rw [if_neg c] at hr; cases hr
  · unfold bytesR at hr
    dsimp only at hr
    by_cases c : s.a + n ≤ B.length
    · rw [if_pos c] at hr; cases hr
    · rw [if_neg c] at hr
      cases hr
      unfold takeX
      rw [if_neg (by simp [he]), if_pos (by omega)]
      exact ⟨rfl, rfl, fun h => by cases h⟩
theorem rel_text (B : List UInt8) (k : Nat) : Rel (textX B k) (textR B k) := (rel_num B k).bind (rel_bytes B)
theorem rel_within (B : List UInt8) (lo hi : Nat) : Rel (withX B lo hi) (amongR B lo hi) := by
  have key : ∀ s, amongR B lo hi s = (numR B 1).bind (fun n s' => if n < lo ∨ hi < n then .error (8, s.1) else .ok (n, s')) s := fun s => rfl
  refine ⟨fun s v s' he hr => ?_, fun s e he hr => ?_, fun s he => ?_⟩
  · rw [key] at hr
    cases hq : numR B 1 (s.a, s.g) with
    | error e => rw [Rd.bind_err hq] at hr; cases hr
    | ok q =>
      obtain ⟨u, t⟩ := q
      rw [Rd.bind_ok hq] at hr
      have h1 := (rel_num B 1).ok s u t he hq
      by_cases c : u < lo ∨ hi < u
      · rw [if_pos c] at hr; cases hr
      · rw [if_neg c] at hr
        cases hr
        unfold withX
        rw [h1, if_neg (fun h => c h.2)]
  · rw [key] at hr
    cases hq : numR B 1 (s.a, s.g) with
    | error e' =>
      rw [Rd.bind_err hq] at hr
      cases hr
      obtain ⟨h1, h2, h3⟩ := (rel_num B 1).er s _ he hq
      unfold withX
      rw [if_neg (fun h => h3 (h1.symm.trans h.1))]
      exact ⟨h1, h2, h3⟩
    | ok q =>
      obtain ⟨u, t⟩ := q
      rw [Rd.bind_ok hq] at hr
      have h1 := (rel_num B 1).ok s u t he hq
      by_cases c : u < lo ∨ hi < u
      · rw [if_pos c] at hr
        cases hr
        unfold withX
        rw [h1, if_pos ⟨he, c⟩]
        exact ⟨rfl, rfl, fun h => by cases h⟩
      · rw [if_neg c] at hr; cases hr
  · unfold withX
    rw [numX_bad he, if_neg (fun h => he h.1)]
    exact ⟨rfl, rfl⟩
theorem rel_node (B : List UInt8) : Rel (nodeX B) (nodeR B) := (rel_num B 4).bind fun x => (rel_num B 4).bind fun y => Rel.pure ((x : Int), (y : Int))
theorem rel_slot (B : List UInt8) : Rel (slotX B) (slotR B) := (rel_num B 4).bind fun x => (rel_num B 4).bind fun y => (rel_num B 4).bind fun z => Rel.pure ((x : Int), (y : Int), (z : Int))
theorem rel_note (B : List UInt8) : Rel (noteX B) (noteR B) := (rel_text B 2).bind fun x => (rel_text B 2).bind fun y => Rel.pure (x, y)
theorem rel_sevK {α : Type} {x : DS → α × DS} {r : Rd α} (h : Rel x r) : ∀ (n : Nat) (acc : List α), Rel (sevX x n acc) (sevK r n acc)
  | 0, acc => Rel.pure acc
  | n + 1, acc => by
    have ih := (h.bind (y := fun v => sevX x n (acc ++ [v])) fun v => rel_sevK h n (acc ++ [v]))
    refine ⟨fun s v s' he hr => ?_, fun s e he hr => ?_, fun s he => by rw [sevX, if_pos he]; exact ⟨rfl, rfl⟩⟩
    · rw [sevX, if_neg (by simp [he])]
      exact ih.ok s v s' he hr
    · rw [sevX, if_neg (by simp [he])]
      exact ih.er s e he hr
theorem rel_sev {α : Type} {x : DS → α × DS} {r : Rd α} (h : Rel x r) (n : Nat) : Rel (sevX x n []) (sevR n r) := rel_sevK h n []
theorem rel_ext (B : List UInt8) (k : Nat) : Rel (extX B k) (extR B k) := by
  unfold extX extR
  by_cases c1 : k = 14
  · simp only [if_pos c1]
    exact (rel_num B 2).bind fun x => Rel.pure (x, 0, 0, 0)
  simp only [if_neg c1]
  by_cases c2 : k = 16
  · simp only [if_pos c2]
    exact (rel_num B 2).bind fun x => Rel.pure (x, 0, 0, 1)
  simp only [if_neg c2]
  by_cases c3 : k = 19
  · simp only [if_pos c3]
    exact (rel_num B 2).bind fun x => (rel_num B 1).bind fun y => Rel.pure (0, x, y, 1)
  simp only [if_neg c3]
  by_cases c4 : k = 17 ∨ k = 18
  · simp only [if_pos c4, if_neg (show ¬ (k = 15 ∨ k = 20) by omega)]
    exact (rel_num B 1).bind fun x => Rel.pure (0, 0, 0, x)
  simp only [if_neg c4]
  by_cases c5 : k = 15 ∨ k = 20
  · simp only [if_pos c5]
    exact Rel.pure _
  simp only [if_neg c5]
  exact Rel.pure _
theorem rel_fld (B : List UInt8) {x : DS → FT × DS} {r : Rd FT} (h : Rel x r) : Rel (fldX B x) ((textR B 1).bind fun nm => (flagR B).bind fun nu => (typR B r).bind fun t => Rd.pure (.mk nm nu t.kind t.width t.id t.index t.kids)) := by
  have hf : Rel (fun s => ((withX B 0 1 s).1 == 1, (withX B 0 1 s).2)) (flagR B) := (rel_within B 0 1).bind fun n => Rel.pure (n == 1)
  have ht : Rel (fun s => ((⟨(withX B 1 20 s).1, (extX B (withX B 1 20 s).1 (withX B 1 20 s).2).1.1, (extX B (withX B 1 20 s).1 (withX B 1 20 s).2).1.2.1, (extX B (withX B 1 20 s).1 (withX B 1 20 s).2).1.2.2.1, (sevX x (extX B (withX B 1 20 s).1 (withX B 1 20 s).2).1.2.2.2 [] (extX B (withX B 1 20 s).1 (withX B 1 20 s).2).2).1⟩ : TD), (sevX x (extX B (withX B 1 20 s).1 (withX B 1 20 s).2).1.2.2.2 [] (extX B (withX B 1 20 s).1 (withX B 1 20 s).2).2).2)) (typR B r) :=
    (rel_within B 1 20).bind fun k => (rel_ext B k).bind fun e => (rel_sev h e.2.2.2).bind fun l => Rel.pure (TD.mk k e.1 e.2.1 e.2.2.1 l)
  exact (rel_text B 1).bind fun nm => hf.bind fun nu => ht.bind fun t => Rel.pure (FT.mk nm nu t.kind t.width t.id t.index t.kids)
theorem rel_field (B : List UInt8) : ∀ d, Rel (fieldX B d) (fieldR B d)
  | 0 => by
    refine ⟨fun s v s' he hr => (by rw [fieldR] at hr; cases hr), fun s e he hr => ?_, fun s he => (by rw [fieldX, if_pos he]; exact ⟨rfl, rfl⟩)⟩
    rw [fieldR] at hr
    cases hr
    rw [fieldX, if_neg (by simp [he])]
    exact ⟨rfl, rfl, fun h => by cases h⟩
  | d + 1 => by
    have ih := rel_fld B (rel_field B d)
    refine ⟨fun s v s' he hr => ?_, fun s e he hr => ?_, fun s he => by rw [fieldX, if_pos he]; exact ⟨rfl, rfl⟩⟩
    · rw [fieldR] at hr
      dsimp only at hr
      by_cases c : s.g = 256
      · rw [if_pos c] at hr; cases hr
      · rw [if_neg c] at hr
        rw [fieldX, if_neg (by simp [he]), if_neg c]
        exact ih.ok { s with g := s.g + 1 } v s' he hr
    · rw [fieldR] at hr
      dsimp only at hr
      by_cases c : s.g = 256
      · rw [if_pos c] at hr
        cases hr
        rw [fieldX, if_neg (by simp [he]), if_pos c]
        exact ⟨rfl, rfl, fun h => by cases h⟩
      · rw [if_neg c] at hr
        rw [fieldX, if_neg (by simp [he]), if_neg c]
        exact ih.er { s with g := s.g + 1 } e he hr
theorem rel_sch (B : List UInt8) : Rel (schX B) (schR B) :=
  (rel_num B 2).bind fun n => (rel_sev (rel_field B 64) n).bind fun fs => (rel_num B 2).bind fun m => (rel_sev (rel_note B) m).bind fun ns => Rel.pure (fs, ns)
def bodH (k id : Nat) (dl : Bool) (x : Nat × Nat × List (Int × Int) × List (Int × Int × Int)) : HD := ⟨k, [], [], id, dl, x.1, x.2.1, x.2.2.1, x.2.2.2⟩
theorem rel_body (B : List UInt8) (k id : Nat) (dl : Bool) : Rel (fun s => (bodH k id dl (bodX B s).1, (bodX B s).2)) (bodyR B k id dl) :=
  (rel_num B 4).bind fun rows => (rel_num B 1).bind fun pr => (rel_num B 2).bind fun n => (rel_sev (rel_node B) n).bind fun nds => (rel_num B 2).bind fun m => (rel_sev (rel_slot B) m).bind fun sls => Rel.pure (HD.mk k [] [] id dl rows pr nds sls)
/-- behind the four bytes of the front -/
def restX (B : List UInt8) (k : Nat) (s : DS) : HD × DS :=
  if k = 1 then (⟨k, (schX B s).1.1, (schX B s).1.2, 0, false, 0, 0, [], []⟩, (schX B s).2)
  else if k = 2 then (bodH k (numX B 2 s).1 ((withX B 0 1 (numX B 2 s).2).1 == 1) (bodX B (withX B 0 1 (numX B 2 s).2).2).1, (bodX B (withX B 0 1 (numX B 2 s).2).2).2)
  else (bodH k 0 false (bodX B s).1, (bodX B s).2)
theorem rel_rest (B : List UInt8) (k : Nat) : Rel (restX B k) (if k = 1 then (schR B).bind fun p => Rd.pure ⟨k, p.1, p.2, 0, false, 0, 0, [], []⟩ else if k = 2 then (numR B 2).bind fun i => (flagR B).bind fun d => bodyR B k i d else bodyR B k 0 false) := by
  unfold restX
  by_cases c1 : k = 1
  · simp only [if_pos c1]
    exact (rel_sch B).bind fun p => Rel.pure (HD.mk k p.1 p.2 0 false 0 0 [] [])
  simp only [if_neg c1]
  by_cases c2 : k = 2
  · simp only [if_pos c2]
    have hf : Rel (fun s => ((withX B 0 1 s).1 == 1, (withX B 0 1 s).2)) (flagR B) := (rel_within B 0 1).bind fun n => Rel.pure (n == 1)
    exact (rel_num B 2).bind fun i => hf.bind fun d => rel_body B k i d
  simp only [if_neg c2]
  exact rel_body B k 0 false
def headX (B : List UInt8) (s : DS) : HD × DS :=
  restX B (withX B 1 3 s).1 (withX B 0 0 (withX B 0 0 (withX B 1 1 (withX B 1 3 s).2).2).2).2
theorem rel_head (B : List UInt8) : Rel (headX B) (headR B) :=
  (rel_within B 1 3).bind fun k => (rel_within B 1 1).bind fun _ => (rel_within B 0 0).bind fun _ => (rel_within B 0 0).bind fun _ => rel_rest B k
/-- what the document's reader reads, read as the program's -/
theorem head_good {B : List UInt8} {x : HD} {t : DS} (h : headX B ⟨0, 0, 0, 0⟩ = (x, t)) (he : t.e = 0) : headR B (0, 0) = .ok (x, (t.a, t.g)) := by
  cases hr : headR B (0, 0) with
  | error er =>
    obtain ⟨h1, h2, h3⟩ := (rel_head B).er ⟨0, 0, 0, 0⟩ er rfl hr
    rw [h] at h1
    exact absurd (h1.symm.trans he) h3
  | ok q =>
    obtain ⟨v, s'⟩ := q
    have h1 := (rel_head B).ok ⟨0, 0, 0, 0⟩ v s' rfl hr
    rw [h] at h1
    cases h1
    rfl
theorem head_bad {B : List UInt8} {x : HD} {t : DS} (h : headX B ⟨0, 0, 0, 0⟩ = (x, t)) (he : t.e ≠ 0) : headR B (0, 0) = .error (t.e, t.f) := by
  cases hr : headR B (0, 0) with
  | error er =>
    obtain ⟨h1, h2, h3⟩ := (rel_head B).er ⟨0, 0, 0, 0⟩ er rfl hr
    rw [h] at h1 h2
    dsimp only at h1 h2
    rw [h1, h2]
  | ok q =>
    obtain ⟨v, s'⟩ := q
    have h1 := (rel_head B).ok ⟨0, 0, 0, 0⟩ v s' rfl hr
    rw [h] at h1
    cases h1
    exact absurd rfl he
theorem with_out {B : List UInt8} {lo hi : Nat} {s : DS} (h : ¬ (lo ≤ (withX B lo hi s).1 ∧ (withX B lo hi s).1 ≤ hi)) : (withX B lo hi s).2.e ≠ 0 := by
  unfold withX at h ⊢
  split
  · exact fun h => by cases h
  · rename_i hc
    rw [if_neg hc] at h
    intro he
    exact hc ⟨he, by omega⟩
end Go.Proofs.YtdffjdlpbfcikaaDoor.Kit
