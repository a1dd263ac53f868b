import Derived.Test.YtfoifmacobldbaaGreatDoorTO
import Derived.Test.YtfoifmacobldbaaGreatDoorVI
import Derived.Test.YtfoifmacobldbaaGreatDoorRD
import Derived.Test.YtfoifmacobldbaaGreatDoorPD
set_option maxRecDepth 100000
set_option maxHeartbeats 4000000
namespace Go.Proofs.YtfoifmacobldbaaGreatDoor.Kit
open Go.RowKit Go.Shelf Go.Deep
set_option linter.unusedVariables false
set_option linter.unusedSimpArgs false
/-! ### letters 63 -/
theorem utf_kp {w W : World} {S : Nat → Prop} (h : Lib.Utf8Tabs 0 1 w) (g : Keeps w W S) (hS : ∀ b, b < 9 → ¬ S b) : Lib.Utf8Tabs 0 1 W :=
  ⟨fun c hc => g.cell' (h.1 c hc) (hS 0 (by omega)), fun i hi => ⟨g.cell' (h.2 i hi).1 (hS 1 (by omega)), g.cell' (h.2 i hi).2 (hS 1 (by omega))⟩⟩
theorem esc_len2 (c : UInt8) : 2 ≤ (QE.escaped c).length := by
  unfold QE.escaped
  repeat' split
  all_goals simp
theorem letter_pos {s l : List UInt8} {k : Nat} (h : QE.letterR s = some (l, k)) : 1 ≤ k ∧ k ≤ s.length ∧ l.length ≤ k := by
  unfold QE.letterR at h
  split at h
  · cases h
  · rename_i c r
    split at h
    · unfold QE.escR at h
      split at h
      · rename_i hc
        cases h
        have h1 := (List.isPrefixOf_iff_prefix.1 hc.2).length_le
        have h2 := esc_len2 (QE.meant (c :: r))
        simp only [List.length_singleton]
        omega
      · cases h
    · split at h
      · cases h
      · rename_i k' hk
        split at h
        · cases h
          obtain ⟨k1, k2, -⟩ := QE.rn_take (by simp) hk []
          refine ⟨k1, k2, ?_⟩
          simp only [List.length_take]
          omega
        · cases h
theorem let_fuel : ∀ (n m : Nat) (s : List UInt8), s.length < n → s.length < m → QE.rdLet n s = QE.rdLet m s
  | 0, _, _, h, _ => by omega
  | _ + 1, 0, _, _, h => by omega
  | n + 1, m + 1, s, hn, hm => by
    unfold QE.rdLet
    cases QB.takes [34] s with
    | some r => rfl
    | none =>
      simp only
      cases hl : QE.letterR s with
      | none => rfl
      | some x =>
        obtain ⟨l, k⟩ := x
        have hp := letter_pos hl
        simp only
        rw [let_fuel n m (s.drop k) (by simp; omega) (by simp; omega)]
def rdL (s : List UInt8) : Option (List UInt8 × List UInt8) := QE.rdLet (s.length + 1) s
theorem rdL_q {l : List UInt8} (h : [34].isPrefixOf l = true) : rdL l = some ([], l.drop 1) := by
  unfold rdL QE.rdLet
  rw [takes_iff, h]
  rfl
theorem rdL_n {l : List UInt8} (h : [34].isPrefixOf l = false) : rdL l = (match QE.letterR l with
    | none => none
    | some (bs, k) => (rdL (l.drop k)).map fun r => (bs ++ r.1, r.2)) := by
  unfold rdL
  conv => lhs; unfold QE.rdLet
  rw [takes_iff, h]
  simp only [Bool.false_eq_true, if_false]
  cases hl : QE.letterR l with
  | none => rfl
  | some x =>
    obtain ⟨bs, k⟩ := x
    have hp := letter_pos hl
    simp only
    rw [let_fuel l.length ((l.drop k).length + 1) (l.drop k) (by simp; omega) (by omega)]
    cases QE.rdLet ((l.drop k).length + 1) (l.drop k) <;> rfl
/-- where letters stand -/
def LtI (W wr : World) (p : Nat) (s : ByteArray) (er : Int) (R : Option (List UInt8 × List UInt8)) (k : Nat) (vo : Option Addr) (vc n : Nat) : Prop := ∃ bs, RB W wr p s k er vo vc n bs ∧ R = (rdL (s.data.toList.drop k)).map fun r => (bs ++ r.1, r.2)
theorem slice_from (s : ByteArray) (k : Nat) (h : k ≤ s.size) : ∀ w, (Instr.slice 9 (.string s) (some (.int .i64 (k : Int))) none none).run Tryz.prog w = .ok (.string (s.extract k s.size)) w := by
  intro w
  have a1 : (k : Int) ≤ (s.size : Int) := by omega
  have a2 : (0 : Int) ≤ (k : Int) := by omega
  clear h
  go_simp
theorem letters63 (p : Nat) (hp9 : 9 ≤ p) (s : ByteArray) (W : World) (a : Nat) (er : Int) (hTb : Tbs W) (hU : Lib.Utf8Tabs 0 1 W) (hR : Rd W p s a er) : Calls Tryz.prog 63 #[.pointer (some ⟨p, 0, none⟩)] W (TxA W p s er ((QB.takes [34] (s.data.toList.drop a)).bind rdL)) := by
  obtain ⟨b, hb⟩ : ∃ b, [34].isPrefixOf (s.data.toList.drop a) = b := ⟨_, rfl⟩
  have HM := hidM (must98 p s ⟨#[34]⟩ b W a er hR (by decide) hb)
  rw [takes_iff, hb]
  have HLT := hidM hR.lt
  have HSL := hidM hR.len
  have HTU : Hid (∀ wr, Keeps W wr (fun z => z = p) → Tbs wr ∧ Lib.Utf8Tabs 0 1 wr) := fun wr hk => ⟨hTb.kp hk (fun b hb e => by omega), utf_kp hU hk (fun b hb e => by omega)⟩
  clear hR hTb hU
  cases b with
  | false =>
    clear hb
    go_enter Tryz.func63, Tryz.ntmps63
    go_wp2_with (go_at_call 98; refine HM.out.mono ?_; rintro e u ⟨rfl, hk, hr⟩; have HK := hidM hk; have HR := hidM hr; clear hk hr)
    go_ret2
    exact ⟨HK.out, rfl, HR.out.isBad⟩
  | true =>
    rw [if_pos rfl, Option.bind_some, List.drop_drop]
    show Calls _ _ _ _ (TxA W p s er (rdL (s.data.toList.drop (a + 1))))
    obtain ⟨R, hRe⟩ : ∃ R, R = rdL (s.data.toList.drop (a + 1)) := ⟨_, rfl⟩
    rw [← hRe]
    have HRe := hidM hRe
    clear hb hRe
    go_enter Tryz.func63, Tryz.ntmps63
    go_wp2_with (go_at_call 98; refine HM.out.mono ?_; rintro e u ⟨rfl, hk, hr⟩; have HK := hidM hk; have HR := hidM hr; clear hk hr)
    have HI : Hid (LtI W u p s er R (a + 1) none 0 0) := ⟨[], RB.start HR.out HK.out HLT.out, by rw [HRe.out]; cases rdL (s.data.toList.drop (a + 1)) <;> rfl⟩
    clear HR HK HM HRe
    go_loopw [4] (fun x wr => ∃ (k m : Nat) (vo : Option Addr) (vc : Nat), k ≤ s.size ∧ m ≤ k ∧ x = .slice vo m vc ∧ Hid (LtI W wr p s er R k vo vc m)) (fun _ wr => s.size - (match wr.cell? ⟨p, 1, none⟩ with | some v => (intOf v).toNat | none => 0))
    case atStart => exact ⟨a + 1, 0, none, 0, HI.out.choose_spec.1.rd.pos, by omega, rfl, HI⟩
    case round =>
      obtain ⟨k, m, vo, vc, hk, hm, rfl, HD⟩ := hrel
      clear HI
      obtain ⟨bs, hb, hq⟩ := HD.out
      have HB := hidM hb
      have HQ := hidM hq
      have hsl := HSL.out
      obtain ⟨b2, hb2⟩ : ∃ b2, [34].isPrefixOf (s.data.toList.drop k) = b2 := ⟨_, rfl⟩
      have HT := hidM (takes99 p s ⟨#[34]⟩ b2 wr k er hb.rd (by decide) hb2)
      have HCW : Hid (wr.cell? ⟨p, 1, none⟩ = some (.int .i64 (k : Int))) := hb.rd.cells.2.1
      clear hb hq HD
      cases b2 with
      | true =>
        have HE : Hid (R = some (bs, s.data.toList.drop (k + 1))) := by
          show _ = _
          rw [HQ.out, rdL_q hb2, List.drop_drop]
          simp
        have hlt : k < s.size := by
          rcases Nat.lt_or_ge k s.size with h | h
          · exact h
          · rw [List.drop_of_length_le (by simpa using h)] at hb2; cases hb2
        clear hb2 HQ
        go_wp2_with (go_at_call 99; refine HT.out.mono ?_; rintro e u2 ⟨rfl, hk2, hr2⟩; have HB2 := hidM (HB.out.next hk2 hr2); have hcv := HB2.out.str; clear hk2 hr2)
        go_ret2
        refine ⟨HB2.out.kp, ?_⟩
        rw [HE.out]
        have e3 : (s.data.toList.drop (k + 1)).length = s.size - (k + 1) := by simp
        have e4 : s.size - (s.size - (k + 1)) = k + 1 := by omega
        exact ⟨rfl, by rw [e3]; omega, by rw [e3, e4], by rw [e3, e4]; exact HB2.out.rd⟩
      | false =>
        have HE := hidM (rdL_n hb2)
        clear hb2
        rw [HE.out] at HQ
        clear HE
        obtain ⟨o1, ho1⟩ : ∃ o1, QE.letterR (s.data.toList.drop k) = o1 := ⟨_, rfl⟩
        have HL : Hid (∀ W2, RB W W2 p s k er vo vc m bs → Calls Tryz.prog 100 #[.string (s.extract k s.size)] W2 (LeA W2 o1)) := fun W2 h => by
          obtain ⟨t1, t2⟩ := HTU.out W2 h.kp
          have hx := letter100 (s.extract k s.size) (by simp [ByteArray.size_extract]; omega) W2 t1 t2
          rw [drop_ba s k, ho1] at hx
          exact hx
        rw [ho1] at HQ
        have hp := fun l k' (h : o1 = some (l, k')) => letter_pos (ho1.trans h)
        have HPS := hidM hp
        have hsf := slice_from s k hk
        generalize s.extract k s.size = tx at HL hsf
        have hm' : (k : Int) ≤ (s.size : Int) := by omega
        clear ho1 hp
        cases o1 with
        | none =>
          replace HL : Hid (∀ W2, RB W W2 p s k er vo vc m bs → Calls Tryz.prog 100 #[.string tx] W2 fun e w' => e = .returned (.tuple #[.string ⟨#[]⟩, .int .i64 0]) ∧ Gr W2 w') := HL
          go_wp2_with (go_at_call 99; refine HT.out.mono ?_; rintro e u2 ⟨rfl, hk2, hr2⟩; have HB2 := hidM (HB.out.next hk2 hr2); have HS2 : Hid (Hid (RB W u2.drew p s k er vo vc m bs) ∧ u2.drew.cell? ⟨p, 0, none⟩ = some (.string s) ∧ u2.drew.cell? ⟨p, 1, none⟩ = some (.int .i64 (k : Int))) := ⟨HB2.out.gr gr_drew, (HB2.out.gr gr_drew).rd.cells.1, (HB2.out.gr gr_drew).rd.cells.2.1⟩; clear hk2 hr2)
          go_region_held3 (fun w' => Hid (RB W w' p s k er vo vc m bs) ∧ w'.cell? ⟨p, 0, none⟩ = some (.string s) ∧ w'.cell? ⟨p, 1, none⟩ = some (.int .i64 (k : Int))) (first | with_reducible exact HS3.out | with_reducible exact HS2.out) ((go_at_call 100; refine Calls.mono (HL.out _ HS2.out.1.out) ?_; rintro e u3 ⟨rfl, hg3⟩; have HB3 := hidM (HS2.out.1.out.gr hg3); have HS3 : Hid (Hid (RB W u3 p s k er vo vc m bs) ∧ u3.cell? ⟨p, 0, none⟩ = some (.string s) ∧ u3.cell? ⟨p, 1, none⟩ = some (.int .i64 (k : Int))) := ⟨HB3.out, HB3.out.rd.cells.1, HB3.out.rd.cells.2.1⟩; clear hg3))
          go_wp2_with (go_at_call 30; refine (wrong30 p s _ k er HB3.out.rd).mono ?_; rintro e u4 ⟨rfl, hk4, hr4⟩; have HK4 := hidM hk4; have HR4 := hidM hr4; clear hk4 hr4; simp only [])
          go_ret2
          refine ⟨HB3.out.kp.trans HK4.out (fun _ _ h => h), ?_⟩
          rw [HQ.out]
          exact ⟨rfl, HR4.out.isBad⟩
        | some x =>
          obtain ⟨l, j⟩ := x
          obtain ⟨p1, p2, p3⟩ := HPS.out l j rfl
          have p4 : k + j ≤ s.size := by
            simp only [List.length_drop, sz_list] at p2
            omega
          replace HL : Hid (∀ W2, RB W W2 p s k er vo vc m bs → Calls Tryz.prog 100 #[.string tx] W2 fun e w' => e = .returned (.tuple #[.string ⟨l.toArray⟩, .int .i64 (j : Int)]) ∧ Gr W2 w') := HL
          replace HQ : Hid (R = Option.map (fun r => (bs ++ r.1, r.2)) ((rdL (s.data.toList.drop (k + j))).map fun r => (l ++ r.1, r.2))) := by
            have h := HQ.out
            simp only [List.drop_drop] at h
            exact h
          have hjn : ¬ (j : Int) = 0 := by omega
          have hwr : IntKind.i64.wrap ((k : Int) + (j : Int)) = ((k + j : Nat) : Int) := by rw [IntKind.wrap_i64]; omega
          clear HPS p2
          go_wp2_with (go_at_call 99; refine HT.out.mono ?_; rintro e u2 ⟨rfl, hk2, hr2⟩; have HB2 := hidM (HB.out.next hk2 hr2); have HS2 : Hid (Hid (RB W u2.drew p s k er vo vc m bs) ∧ u2.drew.cell? ⟨p, 0, none⟩ = some (.string s) ∧ u2.drew.cell? ⟨p, 1, none⟩ = some (.int .i64 (k : Int))) := ⟨HB2.out.gr gr_drew, (HB2.out.gr gr_drew).rd.cells.1, (HB2.out.gr gr_drew).rd.cells.2.1⟩; clear hk2 hr2)
          go_region_held3 (fun w' => Hid (RB W w' p s k er vo vc m bs) ∧ w'.cell? ⟨p, 0, none⟩ = some (.string s) ∧ w'.cell? ⟨p, 1, none⟩ = some (.int .i64 (k : Int))) (first | with_reducible exact HS3.out | with_reducible exact HS2.out) ((go_at_call 100; refine Calls.mono (HL.out _ HS2.out.1.out) ?_; rintro e u3 ⟨rfl, hg3⟩; have HB3 := hidM (HS2.out.1.out.gr hg3); have HS3 : Hid (Hid (RB W u3 p s k er vo vc m bs) ∧ u3.cell? ⟨p, 0, none⟩ = some (.string s) ∧ u3.cell? ⟨p, 1, none⟩ = some (.int .i64 (k : Int))) := ⟨HB3.out, HB3.out.rd.cells.1, HB3.out.rd.cells.2.1⟩; clear hg3))
          go_wp2_with (at_builtin; refine Hid.out ?_)
          unfold Hid
          refine wpList_append_any _ rfl (.tmp 30) (.tmp 31) 52 9 rfl 5 (.int .u8 0) 1 Tryz.underlying52 info5 rfl _ m (bv bs) rfl HB3.out.own _ l.length (bv l) rfl (src_str u3 ⟨l.toArray⟩) (by omega) (by omega) ?_
          intro v' w5 hown hgrow hblk
          obtain ⟨vo5, vc5, rfl⟩ := own_formN hown
          have HB5 := hidM (HB3.out.app (us := l) rfl hown hgrow hblk)
          have hcw := HCW.out
          have hc5 := HB5.out.rd.cells.2.1
          have hf5 := HB5.out.rd.frz.1
          clear hown hgrow hblk HB3
          go_wp2_with fail
          go_roundw
          case rel =>
            refine ⟨k + j, m + l.length, vo5, vc5, p4, by omega, rfl, bs ++ l, HB5.out.next ((Keeps.refl _ (fun z => z = p)).setCell (p := ⟨p, 1, none⟩) (fun _ => rfl) _) (HB5.out.rd.set p4), ?_⟩
            rw [HQ.out, Option.map_map]
            congr 1
            funext r
            simp
          case measure =>
            have h6 := (HB5.out.rd.set p4).cells.2.1
            rw [Int.natCast_add] at h6
            rw [h6, hcw]
            simp only [intOf]
            omega
/-! ### lists of values that grow -/
/-- a list of one's own, new since W -/
structure LAt {α : Type} (W w' : World) (t s : Nat) (c : α → List Value) (l : List α) (vo : Option Addr) (vc : Nat) : Prop where
  own : w'.ownsRow 0 t s (.slice vo l.length vc) l.length (l.flatMap c)
  new : ∀ g, (Value.slice vo l.length vc).ownBlock = some g → W.heap.size ≤ g
theorem LAt.nil {α : Type} (W w' : World) (t s : Nat) (c : α → List Value) : LAt W w' t s c [] none 0 := ⟨World.ownsRow_nil _ _ _ _, fun g e => by simp [Value.ownBlock] at e⟩
theorem LAt.blk {α : Type} {W U U' : World} {t s : Nat} {c : α → List Value} {l : List α} {vo : Option Addr} {vc : Nat} {S : Nat → Prop} (h : LAt W U t s c l vo vc) (k : Keeps U U' S) (hS : ∀ z, (Value.slice vo l.length vc).ownBlock = some z → W.heap.size ≤ z → ¬ S z) : LAt W U' t s c l vo vc :=
  ⟨row_kp h.own fun g e => k.block g (own_lt h.own g e) (hS g e (h.new g e)), h.new⟩
/-- new blocks -/
def NV (W w' : World) (b : Nat) : Prop := W.heap.size ≤ b ∧ b < w'.heap.size
theorem VRow.mono {S S' : Nat → Prop} {W : World} (hS : ∀ b, S b → S' b) : ∀ {d : Nat} {ao : Option Addr} {l : List VT}, VRow S W d ao l → VRow S' W d ao l
  | 0, _, _, h => h
  | _ + 1, _, _, h => ⟨h.1, fun hn => by
    obtain ⟨b, o, e, hb, hi⟩ := h.2 hn
    refine ⟨b, o, e, hS b hb, fun i hl => ?_⟩
    obtain ⟨ao', ca', hc, hle, hv, hr⟩ := hi i hl
    exact ⟨ao', ca', hc, hle, hv, VRow.mono hS hr⟩⟩
theorem VRow.nv {W U U' : World} {d : Nat} {ao : Option Addr} {l : List VT} (h : VRow (NV W U) U d ao l) (k : ∀ b, NV W U b → U'.heap[b]? = U.heap[b]?) (hs : U.heap.size ≤ U'.heap.size) : VRow (NV W U') U' d ao l := (h.kept k).mono fun b hb => ⟨hb.1, Nat.lt_of_lt_of_le hb.2 hs⟩
abbrev VE := VT × Option Addr × Nat
def vcel (e : VE) : List Value := [.bool e.1.nul, .int .i64 e.1.num, .string e.1.text, .slice e.2.1 e.1.list.length e.2.2]
theorem flat4 : ∀ (l : List VE) (i : Nat) (h : i < l.length) (j : Nat), j < 4 → (l.flatMap vcel)[i * 4 + j]? = (vcel l[i])[j]?
  | e :: l, 0, h, j, hj => by
    rw [List.flatMap_cons, List.getElem?_append_left (by show _ < 4; omega)]
    simp
  | e :: l, i + 1, h, j, hj => by
    rw [List.flatMap_cons, List.getElem?_append_right (by show 4 ≤ _; omega)]
    have := flat4 l i (by simpa using h) j hj
    rw [show (i + 1) * 4 + j - (vcel e).length = i * 4 + j by show _ - 4 = _; omega, this]
    simp
/-- a value as an answer; its list is new since W -/
def VV (d : Nat) (W w' : World) (x : VT) (val : Value) : Prop := ∃ ko kc, val = .agg #[Value.bool x.nul, .int .i64 x.num, .string x.text, .slice ko x.list.length kc] ∧ x.list.length ≤ kc ∧ VOk x ∧ VRow (NV W w') w' d ko x.list
structure VL (W w' : World) (d : Nat) (l : List VE) (vo : Option Addr) (vc : Nat) : Prop where
  row : LAt W w' 29 4 vcel l vo vc
  kids : ∀ e ∈ l, e.1.list.length ≤ e.2.2 ∧ VOk e.1 ∧ VRow (fun b => NV W w' b ∧ (Value.slice vo l.length vc).ownBlock ≠ some b) w' d e.2.1 e.1.list
theorem VL.nil (W w' : World) (d : Nat) : VL W w' d [] none 0 := ⟨LAt.nil _ _ _ _ _, fun e he => by cases he⟩
theorem VL.kp {W U U' : World} {d : Nat} {l : List VE} {vo : Option Addr} {vc p : Nat} (h : VL W U d l vo vc) (k : Keeps U U' (fun z => z = p)) (hp : p < W.heap.size) : VL W U' d l vo vc :=
  ⟨h.row.blk k (fun z e hz e' => by omega), fun e he => ⟨(h.kids e he).1, (h.kids e he).2.1, ((h.kids e he).2.2.kept fun b hb => k.block b hb.1.2 (fun e' => by have := hb.1.1; omega)).mono fun b hb => ⟨⟨hb.1.1, Nat.lt_of_lt_of_le hb.1.2 k.size⟩, hb.2⟩⟩⟩
/-- one more -/
theorem VL.push {W wr U w1 : World} {d : Nat} {l : List VE} {vo vo' : Option Addr} {vc vc' n : Nat} {x : VT} {ko : Option Addr} {kc : Nat} {ob : Obj} (hW : W.heap.size ≤ wr.heap.size) (hU : wr.heap.size ≤ U.heap.size) (h0 : VL W wr d l vo vc) (h : VL W U d l vo vc) (hl : l.length = n) (hk : x.list.length ≤ kc) (hx : VOk x) (hr : VRow (NV wr U) U d ko x.list)
    (hown : w1.ownsRow 0 29 4 (.slice vo' (n + 1) vc') (n + 1) (l.flatMap vcel ++ vcel (x, ko, kc))) (hgrow : (U.alloc ob).grownBy w1 (Value.slice vo n vc).ownBlock) (hblk : (Value.slice vo' (n + 1) vc').ownBlock = (Value.slice vo n vc).ownBlock ∨ ∀ g, (Value.slice vo' (n + 1) vc').ownBlock = some g → (U.alloc ob).heap.size ≤ g) :
    VL W w1 d (l ++ [(x, ko, kc)]) vo' vc' := by
  subst hl
  have gA : Gr U (U.alloc ob) := gr_alloc U _
  have sA := gA.size
  have kA : Keeps U w1 (fun z => (Value.slice vo l.length vc).ownBlock = some z) := (gA.mono fun _ _ h => h.elim).trans (Keeps.ofGrown hgrow) (fun _ _ h => h)
  have hL : (l ++ [(x, ko, kc)]).length = l.length + 1 := by simp
  refine ⟨⟨?_, fun g e => ?_⟩, fun e he => ?_⟩
  · rw [hL, List.flatMap_append]; simpa using hown
  · rw [hL] at e
    refine hblk.elim (fun q => h.row.new g (q ▸ e)) fun q => ?_
    have a1 := q g e
    omega
  · rw [hL]
    have hne : ∀ b, (W.heap.size ≤ b ∧ b < U.heap.size) → (Value.slice vo l.length vc).ownBlock ≠ some b → (Value.slice vo' (l.length + 1) vc').ownBlock ≠ some b := fun b hb hb' e => by
      rcases hblk with q | q
      · exact hb' (q ▸ e)
      · have := q b e; omega
    rcases List.mem_append.1 he with he | he
    · exact ⟨(h.kids e he).1, (h.kids e he).2.1, ((h.kids e he).2.2.kept fun b hb => kA.block b hb.1.2 hb.2).mono fun b hb => ⟨⟨hb.1.1, Nat.lt_of_lt_of_le hb.1.2 kA.size⟩, hne b ⟨hb.1.1, hb.1.2⟩ hb.2⟩⟩
    · have e' : e = (x, ko, kc) := by simpa using he
      subst e'
      have hn0 : ∀ b, wr.heap.size ≤ b → (Value.slice vo l.length vc).ownBlock ≠ some b := fun b hb e => by have := own_lt h0.row.own b e; omega
      exact ⟨hk, hx, (hr.kept fun b hb => kA.block b hb.2 (hn0 b hb.1)).mono fun b hb => ⟨⟨by have := hb.1; omega, Nat.lt_of_lt_of_le hb.2 kA.size⟩, hne b ⟨by have := hb.1; omega, hb.2⟩ (hn0 b hb.1)⟩⟩
/-- one alone, in a block of its own -/
theorem VL.one {W U : World} {d : Nat} {x : VT} {ko : Option Addr} {kc : Nat} (hW : W.heap.size ≤ U.heap.size) (hk : x.list.length ≤ kc) (hx : VOk x) (hr : VRow (NV W U) U d ko x.list) :
    VL W (U.alloc (.cells #[Value.bool x.nul, .int .i64 x.num, .string x.text, .slice ko x.list.length kc] 29)) d [(x, ko, kc)] (some ⟨U.heap.size, 0, none⟩) 1 := by
  have gA := gr_alloc U (.cells #[Value.bool x.nul, .int .i64 x.num, .string x.text, .slice ko x.list.length kc] 29)
  refine ⟨⟨⟨rfl, .inr ⟨U.heap.size, 1, _, rfl, Nat.zero_le _, heap_alloc_new U _, Nat.le_refl _, by decide, rfl, rfl⟩⟩, fun g e => ?_⟩, fun e he => ?_⟩
  · have : U.heap.size = g := by simpa [Value.ownBlock] using e
    omega
  · have e' : e = (x, ko, kc) := by simpa using he
    subst e'
    refine ⟨hk, hx, (hr.kept fun b hb => gA.block b hb.2 id).mono fun b hb => ⟨⟨hb.1, Nat.lt_of_lt_of_le hb.2 gA.size⟩, fun e => ?_⟩⟩
    have e2 : U.heap.size = b := by simpa [Value.ownBlock] using e
    have := hb.2
    omega
/-- as a list of values -/
theorem VL.rowAt {W w' : World} {d : Nat} {l : List VE} {vo : Option Addr} {vc : Nat} (h : VL W w' d l vo vc) (hb : l.length ≤ big) : l.length ≤ vc ∧ VRow (NV W w') w' (d + 1) vo (l.map (·.1)) := by
  rcases h.row.own.2 with ⟨e, h0⟩ | ⟨g, cap, cur, e, h1, h2, h3, h4⟩
  · have : l = [] := List.length_eq_zero_iff.1 h0
    subst this
    exact ⟨Nat.zero_le _, by simp [big], fun hn => absurd rfl hn⟩
  · cases e
    refine ⟨by omega, by simpa using hb, fun hn => ⟨g, 0, rfl, ⟨h.row.new g rfl, own_lt h.row.own g rfl⟩, fun i hi => ?_⟩⟩
    have hil : i < l.length := by simpa using hi
    have hm := h.kids l[i] (List.getElem_mem hil)
    have hc : ∀ j, j < 4 → w'.cell? ⟨g, i * 4 + j, none⟩ = (vcel l[i])[j]? := fun j hj => by
      rw [h.row.own.cellAt (i * 4 + j) (by omega), flat4 l i hil j hj]
    refine ⟨l[i].2.1, l[i].2.2, ?_, by rw [List.getElem_map]; exact hm.1, by rw [List.getElem_map]; exact hm.2.1, by rw [List.getElem_map]; exact hm.2.2.mono fun b hb => hb.1⟩
    rw [Nat.zero_add, List.getElem_map]
    exact ⟨hc 0 (by omega), hc 1 (by omega), hc 2 (by omega), hc 3 (by omega)⟩
theorem info29 : (Tryz.prog.info? 29).map (fun i => (i.zero, i.size, i.bytes)) = some (some (.agg #[.bool false, .int .i64 0, .string ⟨#[]⟩, .slice none 0 0]), 4, 56) := by kernel_rfl
theorem src29 (w : World) (x : VT) (ko : Option Addr) (kc : Nat) : Src Tryz.prog 4 27 (.slice (some ⟨w.heap.size, 0, none⟩) 1 1) 1 (vcel (x, ko, kc)) (w.alloc (.cells #[Value.bool x.nul, .int .i64 x.num, .string x.text, .slice ko x.list.length kc] 29)) := by
  refine Src.ofSlice (w := w.alloc (.cells #[Value.bool x.nul, .int .i64 x.num, .string x.text, .slice ko x.list.length kc] 29)) Tryz.underlying27 ⟨w.heap.size, 0, none⟩ 1 1 (vcel (x, ko, kc)) (by simp [vcel]) (fun j v hj => ?_) (fun v hv => by simp [vcel] at hv; rcases hv with rfl | rfl | rfl | rfl <;> rfl)
  have hb' := heap_alloc_new w (.cells #[Value.bool x.nul, .int .i64 x.num, .string x.text, .slice ko x.list.length kc] 29)
  have e : (⟨w.heap.size, 0, none⟩ : Addr).add j = ⟨w.heap.size, j, none⟩ := by cases j <;> simp [Addr.add]
  rw [e]
  simp only [World.cell?, hb']
  simpa [vcel] using hj
/-- a value of four parts, whatever they are -/
def AnyV (val : Value) : Prop := ∃ b n x lo ln lc, val = .agg #[.bool b, .int .i64 n, .string x, .slice lo ln lc]
/-- a value is read, or none -/
def VaA (W : World) (p : Nat) (s : ByteArray) (er : Int) (d : Nat) (o : Option (VT × List UInt8)) (e : Ending) (W' : World) : Prop :=
  Keeps W W' (fun z => z = p) ∧ match o with
    | some (v, t) => (∃ val, e = .returned (.tuple #[val, .bool true]) ∧ VV d W W' v val) ∧ t.length ≤ s.size ∧ t = s.data.toList.drop (s.size - t.length) ∧ Rd W' p s (s.size - t.length) er
    | none => (∃ val, e = .returned (.tuple #[val, .bool false]) ∧ AnyV val) ∧ Bad W' p s
/-- a list of values is read, or none -/
def LsA (W : World) (p : Nat) (s : ByteArray) (er : Int) (d : Nat) (o : Option (List VT × List UInt8)) (e : Ending) (W' : World) : Prop :=
  Keeps W W' (fun z => z = p) ∧ match o with
    | some (l, t) => (∃ vo vc, e = .returned (.tuple #[.slice vo l.length vc, .bool true]) ∧ l.length ≤ vc ∧ VRow (NV W W') W' (d + 1) vo l) ∧ t.length ≤ s.size ∧ t = s.data.toList.drop (s.size - t.length) ∧ Rd W' p s (s.size - t.length) er
    | none => (∃ vo n vc, e = .returned (.tuple #[.slice vo n vc, .bool false])) ∧ Bad W' p s
end Go.Proofs.YtfoifmacobldbaaGreatDoor.Kit
