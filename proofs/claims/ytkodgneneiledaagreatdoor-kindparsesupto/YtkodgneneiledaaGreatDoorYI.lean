import Derived.Test.YtkodgneneiledaaGreatDoorYH
import Derived.Test.YtkodgneneiledaaGreatDoorUR
set_option maxRecDepth 100000
set_option maxHeartbeats 4000000
namespace Go.Proofs.YtkodgneneiledaaGreatDoor.Kit
open Go.RowKit Go.Shelf Go.Deep
set_option linter.unusedVariables false
attribute [local go_sem] run_store_func
theorem see_da (p : Nat) (s : ByteArray) (c : Nat) (g : List Nat) (U : World) (h : DA U p s c g) : Calls Tryz.prog 24 #[.pointer (some ⟨p, 0, none⟩)] U (fun e w' => Gr U w' ∧ e = .returned (tokV s.data.toList (c + skN (s.data.toList.drop c)))) := by
  obtain ⟨a, vo, vc, hA, hsm, _⟩ := h
  have := see24 p s a _ _ U hA.box hA.pos hA.len
  rw [show a + skN (s.data.toList.drop a) = c + skN (s.data.toList.drop c) from hsm] at this
  exact this
theorem see_dd (p : Nat) (s : ByteArray) (o : Nat) (U : World) (h : DD U p s o) : ∃ b, Calls Tryz.prog 24 #[.pointer (some ⟨p, 0, none⟩)] U (fun e w' => Gr U w' ∧ e = .returned (tokV s.data.toList b)) := by
  obtain ⟨a, n, hX, hs, ha, _⟩ := h
  exact ⟨_, see24 p s a _ _ U hX ha hs⟩
def dM (s : ByteArray) (W : World) (p : Nat) : Nat := match W.cell? ⟨p, 2, none⟩ with
  | some (.int .i64 f) => if f < 0 then (match W.cell? ⟨p, 1, none⟩ with | some (.int .i64 a) => s.size + 1 - (a.toNat + skN (s.data.toList.drop a.toNat)) | _ => 0) else 0
  | _ => 0
theorem DA.m {W : World} {p : Nat} {s : ByteArray} {c : Nat} {g : List Nat} (h : DA W p s c g) : dM s W p = s.size + 1 - (c + skN (s.data.toList.drop c)) := by
  obtain ⟨a, vo, vc, hA, hsm, _⟩ := h
  have c1 : W.cell? ⟨p, 1, none⟩ = some (.int .i64 (a : Int)) := by simp [World.cell?, hA.box]
  have c2 : W.cell? ⟨p, 2, none⟩ = some (.int .i64 (-1)) := by simp [World.cell?, hA.box]
  unfold dM
  rw [c2, c1]
  dsimp only
  rw [if_pos (by decide), Int.toNat_natCast, show a + skN (s.data.toList.drop a) = c + skN (s.data.toList.drop c) from hsm]
theorem DD.m {W : World} {p : Nat} {s : ByteArray} {o : Nat} (h : DD W p s o) : dM s W p = 0 := by
  obtain ⟨a, n, hX, _⟩ := h
  have c2 : W.cell? ⟨p, 2, none⟩ = some (.int .i64 (o : Int)) := by simp [World.cell?, hX]
  unfold dM
  rw [c2]
  dsimp only
  rw [if_neg (by omega)]
theorem DA.few {W : World} {p : Nat} {s : ByteArray} {c : Nat} {g : List Nat} (h : DA W p s c g) : g.length ≤ c := by obtain ⟨_, _, _, _, _, h, _⟩ := h; exact h
def XF (v : Value) : Prop := ∃ (x : FT) (ko : Option Addr) (kc : Nat), v = .agg #[.string x.name, .bool x.nul, .int .i64 x.kind, .int .i64 x.width, .int .i64 x.id, .int .i64 x.index, .slice ko x.kids.length kc]
def XL (v : Value) : Prop := ∃ (vo : Option Addr) (n vc : Nat), v = .slice vo n vc
def FPo (p : Nat) (s : ByteArray) (d : Nat) (q : Except Nat (FT × Ps)) (wr U : World) (x : FT) (ko : Option Addr) (kc : Nat) : Prop :=
  KpN wr U p ∧ ((∃ a3 g3, q = .ok (x, (a3, g3)) ∧ x.kids.length ≤ kc ∧ RowAt (NB p wr U) U d ko x.kids ∧ DA U p s a3 g3) ∨ ∃ o, q = .error o ∧ DD U p s o)
theorem fld_post {W w' : World} {p d : Nat} {s : ByteArray} {q : Except Nat (FT × Ps)} {e : Ending} (h : DnQ W p s q (FV p d W) XF e w') : ∃ x ko kc, e = .returned (.agg #[.string x.name, .bool x.nul, .int .i64 x.kind, .int .i64 x.width, .int .i64 x.id, .int .i64 x.index, .slice ko x.kids.length kc]) ∧ FPo p s d q W w' x ko kc := by
  obtain ⟨hk, h⟩ := h
  cases q with
  | ok y =>
    obtain ⟨x, a, g⟩ := y
    obtain ⟨v, rfl, ⟨ko, kc, rfl, hkc, hr⟩, hA⟩ := h
    exact ⟨x, ko, kc, rfl, hk, .inl ⟨a, g, rfl, hkc, hr, hA⟩⟩
  | error o =>
    obtain ⟨v, rfl, ⟨x, ko, kc, rfl⟩, hD⟩ := h
    exact ⟨x, ko, kc, rfl, hk, .inr ⟨o, rfl, hD⟩⟩
def LIv (W : World) (p : Nat) (s : ByteArray) (d : Nat) (r : Pr FT) (R : Except Nat (List FT × Ps)) (c0 : Nat) (acc : List FE) (vo : Option Addr) (vc : Nat) (wr : World) : Prop :=
  KpN W wr p ∧ ((∃ n a g, a ≤ s.size ∧ c0 ≤ a ∧ s.size - a < n ∧ acc.length ≤ a ∧ FL p W wr d acc vo vc ∧ DA wr p s a g ∧ comP s.data.toList r n (acc.map (·.1)) (a, g) = R) ∨ ∃ o, R = .error o ∧ DD wr p s o)
theorem LIv.push {p : Nat} {s : ByteArray} {W wr U w1 : World} {d : Nat} {r : Pr FT} {R : Except Nat (List FT × Ps)} {c0 a2 : Nat} {q : Except Nat (FT × Ps)} {l : List FE} {vo vo' : Option Addr} {vc vc' : Nat} {x : FT} {ko : Option Addr} {kc : Nat} {ob : Obj} (hp : p < W.heap.size) (hk : KpN W wr p) (h0 : FL p W wr d l vo vc) (hF : FPo p s d q wr U x ko kc)
    (hok : ∀ x a3 g3, q = .ok (x, (a3, g3)) → a3 ≤ s.size → (∃ n, s.size - a3 < n ∧ comP s.data.toList r n (l.map (·.1) ++ [x]) (a3, g3) = R) ∧ l.length + 1 ≤ a3 ∧ c0 ≤ a3 ∧ a2 ≤ a3) (her : ∀ o, q = .error o → R = .error o)
    (hown : w1.ownsRow 0 37 7 (.slice vo' (l.length + 1) vc') (l.length + 1) (l.flatMap fcel ++ fcel (x, ko, kc))) (hgrow : (U.alloc ob).grownBy w1 (Value.slice vo l.length vc).ownBlock) (hblk : (Value.slice vo' (l.length + 1) vc').ownBlock = (Value.slice vo l.length vc).ownBlock ∨ ∀ g, (Value.slice vo' (l.length + 1) vc').ownBlock = some g → (U.alloc ob).heap.size ≤ g) :
    LIv W p s d r R c0 (l ++ [(x, ko, kc)]) vo' vc' w1 ∧ dM s w1 p ≤ s.size + 1 - a2 := by
  have h := h0.kpn hF.1 hp
  have gA : Gr U (U.alloc ob) := gr_alloc U _
  have kA : Keeps U w1 (fun z => (Value.slice vo l.length vc).ownBlock = some z) := (gA.mono fun _ _ h => h.elim).trans (Keeps.ofGrown hgrow) (fun _ _ h => h)
  have hap : ∀ z, (Value.slice vo l.length vc).ownBlock = some z → z ≠ p ∧ ¬ IntsB p U z := fun z e => by
    have h1 := h.row.new z e
    obtain ⟨cs, hb⟩ := own_blk h.row.own e
    exact ⟨by omega, IntsB.of hb (by decide)⟩
  have hK : KpN W w1 p := (hk.tr hF.1).trans kA fun j hj e => by have := h.row.new j e; omega
  rcases hF.2 with ⟨a3, g3, e, hkc, hr, hA⟩ | ⟨o, e, hD⟩
  · have hA1 := hA.kept kA hap
    obtain ⟨⟨n, hn, hc⟩, hl, h0a, h2a⟩ := hok x a3 g3 e hA.pos
    refine ⟨⟨hK, .inl ⟨n, a3, g3, hA.pos, h0a, hn, by simpa using hl, FL.push hk.size hF.1.size h0 h rfl hkc hr hown hgrow hblk, hA1, by rw [List.map_append]; exact hc⟩⟩, ?_⟩
    rw [hA1.m]; omega
  have hD1 := hD.kept kA fun z e => (hap z e).1
  exact ⟨⟨hK, .inr ⟨o, her o e, hD1⟩⟩, by rw [hD1.m]; exact Nat.zero_le _⟩
theorem fl_nil (p d : Nat) (W : World) : FL p W (W.alloc (.cells #[] 37)) d [] (some ⟨W.heap.size, 0, none⟩) 0 :=
  ⟨⟨⟨rfl, .inr ⟨W.heap.size, 0, #[], rfl, Nat.zero_le _, heap_alloc_new W _, Nat.le_refl _, by decide, rfl, rfl⟩⟩, fun g e => Nat.le_of_eq (by simpa [Value.ownBlock] using e)⟩, fun e he => by cases he⟩
def optP (T : List UInt8) (r : Pr FT) : Pr (List FT) := (peekP T).bind fun c => if c = 41 then Pr.pure [] else manyP T r
def fldsP (T : List UInt8) (r : Pr FT) (nn : Bool) : Pr (List FT) := if nn then optP T r else manyP T r
theorem fields25 (p : Nat) (s : ByteArray) (d : Nat) (r : Pr FT) (hf : ∀ s0 x s1, r s0 = .ok (x, s1) → s0.1 < s1.1) (h35 : DnC p s d 35 #[.pointer (some ⟨p, 0, none⟩)] r (FV p d) XF) (h35d : DeC p s 35 #[.pointer (some ⟨p, 0, none⟩)] XF) (nn : Bool) : DnC p s d 25 #[.pointer (some ⟨p, 0, none⟩), .bool nn] (fldsP s.data.toList r nn) (LV p d) XL := by
  intro W c g hN hd
  have HN := hidP hN
  have H35 := hidP h35
  have H35d := hidP h35d
  have HF := hidP hf
  have HSg := hidP (sign26 p s d 44 (by unfold signB; decide) (fun _ => True))
  have HSd := hidP (sign26_dead p s ⟨#[44]⟩)
  have HSee := hidP (see_da p s c g)
  unfold tokV at HSee
  have HLt := hidP hN.lt
  have hsz := hN.len
  have hcs := hN.pos
  have HFl := hidP (fl_nil p d W)
  have HG1 := hidP (gr_alloc W (.cells #[] 37))
  obtain ⟨W1, hW1⟩ : ∃ W1, W.alloc (.cells #[] 37) = W1 := ⟨_, rfl⟩
  rw [hW1] at HFl HG1
  have HW1 := hidP hW1
  obtain ⟨b0, hb0⟩ : ∃ b0, b0 = W.heap.size := ⟨_, rfl⟩
  rw [← hb0] at HFl
  have Hb0 := hidP hb0
  obtain ⟨R, hR⟩ : ∃ R, R = fldsP s.data.toList r nn (c, g) := ⟨_, rfl⟩
  rw [← hR]
  have HR := hidP hR
  have hkk : (s.data.toList.drop (c + skN (s.data.toList.drop c))).headD 0 = (sk (s.data.toList.drop c)).headD 0 := by rw [drop_sk]
  have HSt := hidP (fun U (h : DA U p s c g) => h.step)
  have hcb : c ≤ c + skN (s.data.toList.drop c) := Nat.le_add_right _ _
  clear hN h35 h35d hf hR hW1 hb0
  cases nn with
  | false =>
    have HC : Hid (R = manyP s.data.toList r (c, g)) := HR.out
    clear hkk HSt
    rcases hTok : tokOf s.data.toList (c + skN (s.data.toList.drop c)) with ⟨tk, tx, tn, tf⟩
    rw [hTok] at HSee
    (try dsimp only at HSee)
    clear hTok
    generalize c + skN (s.data.toList.drop c) = b at HSee hcb
    go_enter Tryz.func25, Tryz.ntmps25
    go_wp2_with (go_at_call 24; refine Hid.out ?_)
    unfold Hid
    rw [HW1.out, ← Hb0.out]
    clear HW1
    refine Calls.mono (HSee.out _ (HN.out.gr HG1.out)) ?_
    rintro e u ⟨hgu, rfl⟩
    have HGu := hidP (HG1.out.trans hgu fun _ _ h => h)
    have HGW1 := hidP hgu
    clear hgu
    go_wp2_with (go_at_call 35; refine Hid.out ?_)
    unfold Hid
    have hz2 := gr_alloc u (.cells #[.int .i64 tk, .string tx, .int .i64 (b : Int), .int .i64 (tn : Int), .int .i64 tf] 64)
    have HGU := hidP (HGu.out.trans hz2 fun _ _ h => h)
    have HFU := hidP (HFl.out.kpn (Gr.n p (HGW1.out.trans hz2 fun _ _ h => h)) HLt.out)
    clear hz2 HGu HGW1
    generalize u.alloc (.cells #[.int .i64 tk, .string tx, .int .i64 (b : Int), .int .i64 (tn : Int), .int .i64 tf] 64) = U at HGU HFU ⊢
    have HNU := hidP (HN.out.gr HGU.out)
    refine Calls.mono (H35.out U c g HNU.out (by omega)) ?_
    intro e U2 hq
    obtain ⟨x, ko, kc, rfl, hF⟩ := fld_post hq
    have HFp := hidP hF
    have HFU2 := hidP (HFU.out.kpn hF.1 HLt.out)
    clear hq hF
    have HO := hidP (HFU2.out.row.own.alloc (.cells #[Value.string x.name, .bool x.nul, .int .i64 x.kind, .int .i64 x.width, .int .i64 x.id, .int .i64 x.index, .slice ko x.kids.length kc] 37))
    have HSr := hidP (src41 U2 x ko kc)
    go_wp2_with (with_reducible show wpList Tryz.prog _ _ (Oper.mk (some 26) _ _ _ _ _ :: _) _ _; refine Hid.out ?_)
    unfold Hid
    refine wpList_append_anyN (P := Tryz.prog) _ rfl (.tmp 22) (.tmp 25) 24 24 rfl 37 (.agg #[.string ⟨#[]⟩, .bool false, .int .i64 0, .int .i64 0, .int .i64 0, .int .i64 0, .slice none 0 0]) 7 80 Tryz.underlying24 info41 rfl _ _ _ rfl HO.out _ _ _ rfl HSr.out (by decide) (by decide) ?_
    refine Hid.out ?_
    unfold Hid
    intro v' w1 hown hgrow hblk
    obtain ⟨vo', vc', rfl⟩ := own_formK hown
    have HL := hidP (LIv.push (s := s) (r := r) (R := R) (c0 := c) (a2 := c) HLt.out (Gr.n p HGU.out) HFU.out HFp.out (fun x a3 g3 e h3 => ⟨⟨D0, by show _ < 65537; omega, by show comP s.data.toList r D0 [x] (a3, g3) = R; rw [HC.out]; exact (Pr.bind_ok (f := fun x => comP s.data.toList r D0 [x]) e).symm⟩, by have h1 : c < a3 := HF.out _ _ _ e; show 0 + 1 ≤ a3; omega, by have h1 : c < a3 := HF.out _ _ _ e; omega, by have h1 : c < a3 := HF.out _ _ _ e; omega⟩) (fun o e => by rw [HC.out]; exact Pr.bind_err e) hown hgrow hblk).1
    clear hown hgrow hblk HSr HO HFU2 HFp HFU HNU HGU HC
    (try clear HR)
    simp only [List.nil_append] at HL
    go_wp2_with fail
    go_loopw [5] (fun v wr => ∃ (acc : List FE) (vo : Option Addr) (vc : Nat), acc ≠ [] ∧ v = .slice vo acc.length vc ∧ Hid (LIv W p s d r R c acc vo vc wr)) (fun _ wr => dM s wr p)
    case atStart => exact ⟨[(x, ko, kc)], vo', vc', by simp, rfl, HL.out⟩
    case round =>
      clear HL
      obtain ⟨acc, vo, vc, hne, rfl, HL⟩ := hrel
      have hL2 := HL.out.2
      have HK := hidP HL.out.1
      clear HL
      rcases hL2 with ⟨n, a, g, has, hca, hn, hal, hFL, hA, hcm⟩ | ⟨o, hRo, hD⟩
      · have HFL := hidP hFL
        have HA := hidP hA
        have HS := hidP hcm
        have Hm := hidP hA.m
        clear hFL hA hcm
        obtain ⟨n, rfl⟩ : ∃ m, n = m + 1 := ⟨n - 1, by omega⟩
        have hq := HSg.out wr a g HA.out (by omega)
        have hnx := skN_le s has
        by_cases hh : (sk (s.data.toList.drop a)).headD 0 = 44
        · have hr := takes_yes (c := 44) g hh
          have hlt := head_lt (by decide) has hh
          rw [hr] at hq
          have HQ := hidP hq
          have Hr := hidP hr
          clear hq hr hh
          obtain ⟨a2, ha2⟩ : ∃ a2, a2 = a + skN (s.data.toList.drop a) + 1 := ⟨_, rfl⟩
          rw [← ha2] at HQ Hr hlt
          have Ha2 := hidP ha2
          have haa : a < a2 := by omega
          clear ha2
          go_wp2_with (first | (go_at_call 26; refine Calls.mono HQ.out ?_; rintro e' U1 ⟨hk, v, rfl, rfl, hR⟩; have HK1 := hidP hk; have HR1 := hidP hR; clear hk hR) | (go_at_call 35; refine Hid.out ?_))
          unfold Hid
          have HFL1 := hidP (HFL.out.kpn HK1.out HLt.out)
          have HKW := hidP (HK.out.tr HK1.out)
          refine Calls.mono (H35.out U1 a2 g HR1.out (by omega)) ?_
          intro e U2 hq
          obtain ⟨x, ko, kc, rfl, hF⟩ := fld_post hq
          have HFp := hidP hF
          have HFU2 := hidP (HFL1.out.kpn hF.1 HLt.out)
          clear hq hF
          have HO := hidP (HFU2.out.row.own.alloc (.cells #[Value.string x.name, .bool x.nul, .int .i64 x.kind, .int .i64 x.width, .int .i64 x.id, .int .i64 x.index, .slice ko x.kids.length kc] 37))
          have HSr := hidP (src41 U2 x ko kc)
          go_wp2_with (with_reducible show wpList Tryz.prog _ _ (Oper.mk (some 33) _ _ _ _ _ :: _) _ _; refine Hid.out ?_)
          unfold Hid
          refine wpList_append_anyN (P := Tryz.prog) _ rfl (.tmp 29) (.tmp 32) 24 24 rfl 37 (.agg #[.string ⟨#[]⟩, .bool false, .int .i64 0, .int .i64 0, .int .i64 0, .int .i64 0, .slice none 0 0]) 7 80 Tryz.underlying24 info41 rfl _ _ _ rfl HO.out _ _ _ rfl HSr.out (by (try simp); omega) (by (try simp); omega) ?_
          refine Hid.out ?_
          unfold Hid
          intro v' w1 hown hgrow hblk
          obtain ⟨vo', vc', rfl⟩ := own_formK hown
          have HLn := hidP (LIv.push (s := s) (r := r) (R := R) (c0 := c) (a2 := a2) HLt.out HKW.out HFL1.out HFp.out (fun x a3 g3 e h3 => by have h1 : a2 < a3 := HF.out _ _ _ e; exact ⟨⟨n, by omega, by rw [← HS.out]; exact (com_ok Hr.out e).symm⟩, by omega, by omega, by omega⟩) (fun o e => by rw [← HS.out]; exact com_err Hr.out e) hown hgrow hblk)
          have hL : acc.length + 1 = (acc ++ [(x, ko, kc)]).length := by simp
          rw [hL]
          have HM := hidP HLn.out.2
          clear hown hgrow hblk HSr HO HFU2 HFp HFL1 HFL HR1 HK1 HKW HQ Hr HS HA hL
          go_wp2_with fail
          go_roundw
          case rel => exact ⟨acc ++ [(x, ko, kc)], vo', vc', by simp, (by first | rfl | trivial | simp), HLn.out.1⟩
          case measure =>
            have h1 := HM.out
            have h2 := Hm.out
            have h3 := Ha2.out
            rw [h2]
            refine Nat.lt_of_le_of_lt h1 ?_
            omega
        have hr := takes_no (c := 44) g hh
        rw [hr] at hq
        have HQ := hidP hq
        have HE : Hid (R = .ok (acc.map (·.1), (a + skN (s.data.toList.drop a), g))) := by show R = _; rw [← HS.out]; exact com_end hr
        clear hq hr hh
        go_wp2_with (go_at_call 26; refine Calls.mono HQ.out ?_; rintro e' U1 ⟨hk, v, rfl, rfl, hR⟩; have HK1 := hidP (HK.out.tr hk); have HR1 := hidP hR; have HA1 := hidP (HFL.out.kpn hk HLt.out); clear hk hR)
        go_ret
        have hrow := HA1.out.rowAt (by show _ ≤ 1000000000000; omega)
        exact DnQ.ok HK1.out HE.out ⟨vo, vc, by rw [List.length_map]; rfl, by rw [List.length_map]; exact hrow.1, hrow.2⟩ HR1.out
      have HRo := hidP hRo
      have HQ := hidP (HSd.out wr o hD)
      clear hRo hD
      go_wp2_with (go_at_call 26; refine Calls.mono HQ.out ?_; rintro e' U1 ⟨hk, ⟨v, rfl, rfl⟩, hD⟩; have HK1 := hidP (HK.out.tr hk); have HD1 := hidP hD; clear hk hD)
      go_ret
      exact DnQ.err HK1.out HRo.out ⟨_, _, _, rfl⟩ HD1.out
  | true =>
    by_cases hh : (sk (s.data.toList.drop c)).headD 0 = 41
    · have HC : Hid (R = .ok ([], (c + skN (s.data.toList.drop c), g))) := by show R = _; rw [HR.out]; show optP s.data.toList r (c, g) = _; exact (Pr.bind_ok (r := peekP s.data.toList) rfl).trans (by rw [if_pos hh]; rfl)
      have hq := tok_sign (by unfold signB; decide) (hkk.trans hh)
      rw [hq] at HSee
      (try dsimp only at HSee)
      clear hq hh hkk HR
      generalize c + skN (s.data.toList.drop c) = b at HSee hcb HSt HC
      go_enter Tryz.func25, Tryz.ntmps25
      go_wp2_with (go_at_call 24; refine Hid.out ?_)
      unfold Hid
      rw [HW1.out, ← Hb0.out]
      clear HW1
      refine Calls.mono (HSee.out _ (HN.out.gr HG1.out)) ?_
      rintro e u ⟨hgu, rfl⟩
      have HGu := hidP (HG1.out.trans hgu fun _ _ h => h)
      have HFu := hidP (HFl.out.kpn (Gr.n p hgu) HLt.out)
      clear hgu
      go_wp2_with fail
      go_ret
      have hg2 := gr_alloc u (.cells #[.int .i64 2, .string ⟨#[41]⟩, .int .i64 (b : Int), .int .i64 ((b + 1 : Nat) : Int), .int .i64 (-1)] 64)
      have hGF := HGu.out.trans hg2 fun _ _ h => h
      have hrow := (HFu.out.kpn (Gr.n p hg2) HLt.out).rowAt (by show 0 ≤ 1000000000000; omega)
      exact DnQ.ok (Gr.n p hGF) HC.out ⟨_, _, rfl, hrow.1, hrow.2⟩ (HSt.out _ (HN.out.gr hGF))
    have HC : Hid (R = manyP s.data.toList r (c + skN (s.data.toList.drop c), g)) := by show R = _; rw [HR.out]; show optP s.data.toList r (c, g) = _; exact (Pr.bind_ok (r := peekP s.data.toList) rfl).trans (by rw [if_neg hh])
    have hns := tok_nosign (T := s.data.toList) (b := c + skN (s.data.toList.drop c)) (c := 41) (by rw [hkk]; exact hh)
    rcases hTok : tokOf s.data.toList (c + skN (s.data.toList.drop c)) with ⟨tk, tx, tn, tf⟩
    rw [hTok] at HSee hns
    (try dsimp only at HSee hns)
    clear hTok hkk hh HR
    have hbs := skN_le s hcs
    generalize c + skN (s.data.toList.drop c) = b at HSee hcb HSt HC hbs
    have he : tk = 2 → (tx.toList == [41]) = false := fun h => Bool.eq_false_iff.2 fun h2 => hns h (str_one.1 h2)
    clear hns
    by_cases h2 : tk = 2
    · have hek : (tk == 2) = true := by rw [h2]; rfl
      have he := he h2
      clear h2
      go_enter Tryz.func25, Tryz.ntmps25
      go_wp2_with (go_at_call 24; refine Hid.out ?_)
      unfold Hid
      rw [HW1.out, ← Hb0.out]
      clear HW1
      refine Calls.mono (HSee.out _ (HN.out.gr HG1.out)) ?_
      rintro e u ⟨hgu, rfl⟩
      have HGu := hidP (HG1.out.trans hgu fun _ _ h => h)
      have HGW1 := hidP hgu
      clear hgu
      go_wp2_with (go_at_call 35; refine Hid.out ?_)
      unfold Hid
      have hz2 := gr_alloc u (.cells #[.int .i64 tk, .string tx, .int .i64 (b : Int), .int .i64 (tn : Int), .int .i64 tf] 64)
      have HGU := hidP (HGu.out.trans hz2 fun _ _ h => h)
      have HFU := hidP (HFl.out.kpn (Gr.n p (HGW1.out.trans hz2 fun _ _ h => h)) HLt.out)
      clear hz2 HGu HGW1
      generalize u.alloc (.cells #[.int .i64 tk, .string tx, .int .i64 (b : Int), .int .i64 (tn : Int), .int .i64 tf] 64) = U at HGU HFU ⊢
      have HNU := hidP (HSt.out _ (HN.out.gr HGU.out))
      refine Calls.mono (H35.out U b g HNU.out (by omega)) ?_
      intro e U2 hq
      obtain ⟨x, ko, kc, rfl, hF⟩ := fld_post hq
      have HFp := hidP hF
      have HFU2 := hidP (HFU.out.kpn hF.1 HLt.out)
      clear hq hF
      have HO := hidP (HFU2.out.row.own.alloc (.cells #[Value.string x.name, .bool x.nul, .int .i64 x.kind, .int .i64 x.width, .int .i64 x.id, .int .i64 x.index, .slice ko x.kids.length kc] 37))
      have HSr := hidP (src41 U2 x ko kc)
      go_wp2_with (with_reducible show wpList Tryz.prog _ _ (Oper.mk (some 26) _ _ _ _ _ :: _) _ _; refine Hid.out ?_)
      unfold Hid
      refine wpList_append_anyN (P := Tryz.prog) _ rfl (.tmp 22) (.tmp 25) 24 24 rfl 37 (.agg #[.string ⟨#[]⟩, .bool false, .int .i64 0, .int .i64 0, .int .i64 0, .int .i64 0, .slice none 0 0]) 7 80 Tryz.underlying24 info41 rfl _ _ _ rfl HO.out _ _ _ rfl HSr.out (by decide) (by decide) ?_
      refine Hid.out ?_
      unfold Hid
      intro v' w1 hown hgrow hblk
      obtain ⟨vo', vc', rfl⟩ := own_formK hown
      have HL := hidP (LIv.push (s := s) (r := r) (R := R) (c0 := c) (a2 := c) HLt.out (Gr.n p HGU.out) HFU.out HFp.out (fun x a3 g3 e h3 => ⟨⟨D0, by show _ < 65537; omega, by show comP s.data.toList r D0 [x] (a3, g3) = R; rw [HC.out]; exact (Pr.bind_ok (f := fun x => comP s.data.toList r D0 [x]) e).symm⟩, by have h1 : b < a3 := HF.out _ _ _ e; show 0 + 1 ≤ a3; omega, by have h1 : b < a3 := HF.out _ _ _ e; omega, by have h1 : b < a3 := HF.out _ _ _ e; omega⟩) (fun o e => by rw [HC.out]; exact Pr.bind_err e) hown hgrow hblk).1
      clear hown hgrow hblk HSr HO HFU2 HFp HFU HNU HGU HC
      (try clear HR)
      simp only [List.nil_append] at HL
      go_wp2_with fail
      go_loopw [5] (fun v wr => ∃ (acc : List FE) (vo : Option Addr) (vc : Nat), acc ≠ [] ∧ v = .slice vo acc.length vc ∧ Hid (LIv W p s d r R c acc vo vc wr)) (fun _ wr => dM s wr p)
      case atStart => exact ⟨[(x, ko, kc)], vo', vc', by simp, rfl, HL.out⟩
      case round =>
        clear HL
        obtain ⟨acc, vo, vc, hne, rfl, HL⟩ := hrel
        have hL2 := HL.out.2
        have HK := hidP HL.out.1
        clear HL
        rcases hL2 with ⟨n, a, g, has, hca, hn, hal, hFL, hA, hcm⟩ | ⟨o, hRo, hD⟩
        · have HFL := hidP hFL
          have HA := hidP hA
          have HS := hidP hcm
          have Hm := hidP hA.m
          clear hFL hA hcm
          obtain ⟨n, rfl⟩ : ∃ m, n = m + 1 := ⟨n - 1, by omega⟩
          have hq := HSg.out wr a g HA.out (by omega)
          have hnx := skN_le s has
          by_cases hh : (sk (s.data.toList.drop a)).headD 0 = 44
          · have hr := takes_yes (c := 44) g hh
            have hlt := head_lt (by decide) has hh
            rw [hr] at hq
            have HQ := hidP hq
            have Hr := hidP hr
            clear hq hr hh
            obtain ⟨a2, ha2⟩ : ∃ a2, a2 = a + skN (s.data.toList.drop a) + 1 := ⟨_, rfl⟩
            rw [← ha2] at HQ Hr hlt
            have Ha2 := hidP ha2
            have haa : a < a2 := by omega
            clear ha2
            go_wp2_with (first | (go_at_call 26; refine Calls.mono HQ.out ?_; rintro e' U1 ⟨hk, v, rfl, rfl, hR⟩; have HK1 := hidP hk; have HR1 := hidP hR; clear hk hR) | (go_at_call 35; refine Hid.out ?_))
            unfold Hid
            have HFL1 := hidP (HFL.out.kpn HK1.out HLt.out)
            have HKW := hidP (HK.out.tr HK1.out)
            refine Calls.mono (H35.out U1 a2 g HR1.out (by omega)) ?_
            intro e U2 hq
            obtain ⟨x, ko, kc, rfl, hF⟩ := fld_post hq
            have HFp := hidP hF
            have HFU2 := hidP (HFL1.out.kpn hF.1 HLt.out)
            clear hq hF
            have HO := hidP (HFU2.out.row.own.alloc (.cells #[Value.string x.name, .bool x.nul, .int .i64 x.kind, .int .i64 x.width, .int .i64 x.id, .int .i64 x.index, .slice ko x.kids.length kc] 37))
            have HSr := hidP (src41 U2 x ko kc)
            go_wp2_with (with_reducible show wpList Tryz.prog _ _ (Oper.mk (some 33) _ _ _ _ _ :: _) _ _; refine Hid.out ?_)
            unfold Hid
            refine wpList_append_anyN (P := Tryz.prog) _ rfl (.tmp 29) (.tmp 32) 24 24 rfl 37 (.agg #[.string ⟨#[]⟩, .bool false, .int .i64 0, .int .i64 0, .int .i64 0, .int .i64 0, .slice none 0 0]) 7 80 Tryz.underlying24 info41 rfl _ _ _ rfl HO.out _ _ _ rfl HSr.out (by (try simp); omega) (by (try simp); omega) ?_
            refine Hid.out ?_
            unfold Hid
            intro v' w1 hown hgrow hblk
            obtain ⟨vo', vc', rfl⟩ := own_formK hown
            have HLn := hidP (LIv.push (s := s) (r := r) (R := R) (c0 := c) (a2 := a2) HLt.out HKW.out HFL1.out HFp.out (fun x a3 g3 e h3 => by have h1 : a2 < a3 := HF.out _ _ _ e; exact ⟨⟨n, by omega, by rw [← HS.out]; exact (com_ok Hr.out e).symm⟩, by omega, by omega, by omega⟩) (fun o e => by rw [← HS.out]; exact com_err Hr.out e) hown hgrow hblk)
            have hL : acc.length + 1 = (acc ++ [(x, ko, kc)]).length := by simp
            rw [hL]
            have HM := hidP HLn.out.2
            clear hown hgrow hblk HSr HO HFU2 HFp HFL1 HFL HR1 HK1 HKW HQ Hr HS HA hL
            go_wp2_with fail
            go_roundw
            case rel => exact ⟨acc ++ [(x, ko, kc)], vo', vc', by simp, (by first | rfl | trivial | simp), HLn.out.1⟩
            case measure =>
              have h1 := HM.out
              have h2 := Hm.out
              have h3 := Ha2.out
              rw [h2]
              refine Nat.lt_of_le_of_lt h1 ?_
              omega
          have hr := takes_no (c := 44) g hh
          rw [hr] at hq
          have HQ := hidP hq
          have HE : Hid (R = .ok (acc.map (·.1), (a + skN (s.data.toList.drop a), g))) := by show R = _; rw [← HS.out]; exact com_end hr
          clear hq hr hh
          go_wp2_with (go_at_call 26; refine Calls.mono HQ.out ?_; rintro e' U1 ⟨hk, v, rfl, rfl, hR⟩; have HK1 := hidP (HK.out.tr hk); have HR1 := hidP hR; have HA1 := hidP (HFL.out.kpn hk HLt.out); clear hk hR)
          go_ret
          have hrow := HA1.out.rowAt (by show _ ≤ 1000000000000; omega)
          exact DnQ.ok HK1.out HE.out ⟨vo, vc, by rw [List.length_map]; rfl, by rw [List.length_map]; exact hrow.1, hrow.2⟩ HR1.out
        have HRo := hidP hRo
        have HQ := hidP (HSd.out wr o hD)
        clear hRo hD
        go_wp2_with (go_at_call 26; refine Calls.mono HQ.out ?_; rintro e' U1 ⟨hk, ⟨v, rfl, rfl⟩, hD⟩; have HK1 := hidP (HK.out.tr hk); have HD1 := hidP hD; clear hk hD)
        go_ret
        exact DnQ.err HK1.out HRo.out ⟨_, _, _, rfl⟩ HD1.out
    have hek : (tk == 2) = false := by exact beq_eq_false_iff_ne.2 h2
    clear he
    clear h2
    go_enter Tryz.func25, Tryz.ntmps25
    go_wp2_with (go_at_call 24; refine Hid.out ?_)
    unfold Hid
    rw [HW1.out, ← Hb0.out]
    clear HW1
    refine Calls.mono (HSee.out _ (HN.out.gr HG1.out)) ?_
    rintro e u ⟨hgu, rfl⟩
    have HGu := hidP (HG1.out.trans hgu fun _ _ h => h)
    have HGW1 := hidP hgu
    clear hgu
    go_wp2_with (go_at_call 35; refine Hid.out ?_)
    unfold Hid
    have hz2 := gr_alloc u (.cells #[.int .i64 tk, .string tx, .int .i64 (b : Int), .int .i64 (tn : Int), .int .i64 tf] 64)
    have HGU := hidP (HGu.out.trans hz2 fun _ _ h => h)
    have HFU := hidP (HFl.out.kpn (Gr.n p (HGW1.out.trans hz2 fun _ _ h => h)) HLt.out)
    clear hz2 HGu HGW1
    generalize u.alloc (.cells #[.int .i64 tk, .string tx, .int .i64 (b : Int), .int .i64 (tn : Int), .int .i64 tf] 64) = U at HGU HFU ⊢
    have HNU := hidP (HSt.out _ (HN.out.gr HGU.out))
    refine Calls.mono (H35.out U b g HNU.out (by omega)) ?_
    intro e U2 hq
    obtain ⟨x, ko, kc, rfl, hF⟩ := fld_post hq
    have HFp := hidP hF
    have HFU2 := hidP (HFU.out.kpn hF.1 HLt.out)
    clear hq hF
    have HO := hidP (HFU2.out.row.own.alloc (.cells #[Value.string x.name, .bool x.nul, .int .i64 x.kind, .int .i64 x.width, .int .i64 x.id, .int .i64 x.index, .slice ko x.kids.length kc] 37))
    have HSr := hidP (src41 U2 x ko kc)
    go_wp2_with (with_reducible show wpList Tryz.prog _ _ (Oper.mk (some 26) _ _ _ _ _ :: _) _ _; refine Hid.out ?_)
    unfold Hid
    refine wpList_append_anyN (P := Tryz.prog) _ rfl (.tmp 22) (.tmp 25) 24 24 rfl 37 (.agg #[.string ⟨#[]⟩, .bool false, .int .i64 0, .int .i64 0, .int .i64 0, .int .i64 0, .slice none 0 0]) 7 80 Tryz.underlying24 info41 rfl _ _ _ rfl HO.out _ _ _ rfl HSr.out (by decide) (by decide) ?_
    refine Hid.out ?_
    unfold Hid
    intro v' w1 hown hgrow hblk
    obtain ⟨vo', vc', rfl⟩ := own_formK hown
    have HL := hidP (LIv.push (s := s) (r := r) (R := R) (c0 := c) (a2 := c) HLt.out (Gr.n p HGU.out) HFU.out HFp.out (fun x a3 g3 e h3 => ⟨⟨D0, by show _ < 65537; omega, by show comP s.data.toList r D0 [x] (a3, g3) = R; rw [HC.out]; exact (Pr.bind_ok (f := fun x => comP s.data.toList r D0 [x]) e).symm⟩, by have h1 : b < a3 := HF.out _ _ _ e; show 0 + 1 ≤ a3; omega, by have h1 : b < a3 := HF.out _ _ _ e; omega, by have h1 : b < a3 := HF.out _ _ _ e; omega⟩) (fun o e => by rw [HC.out]; exact Pr.bind_err e) hown hgrow hblk).1
    clear hown hgrow hblk HSr HO HFU2 HFp HFU HNU HGU HC
    (try clear HR)
    simp only [List.nil_append] at HL
    go_wp2_with fail
    go_loopw [5] (fun v wr => ∃ (acc : List FE) (vo : Option Addr) (vc : Nat), acc ≠ [] ∧ v = .slice vo acc.length vc ∧ Hid (LIv W p s d r R c acc vo vc wr)) (fun _ wr => dM s wr p)
    case atStart => exact ⟨[(x, ko, kc)], vo', vc', by simp, rfl, HL.out⟩
    case round =>
      clear HL
      obtain ⟨acc, vo, vc, hne, rfl, HL⟩ := hrel
      have hL2 := HL.out.2
      have HK := hidP HL.out.1
      clear HL
      rcases hL2 with ⟨n, a, g, has, hca, hn, hal, hFL, hA, hcm⟩ | ⟨o, hRo, hD⟩
      · have HFL := hidP hFL
        have HA := hidP hA
        have HS := hidP hcm
        have Hm := hidP hA.m
        clear hFL hA hcm
        obtain ⟨n, rfl⟩ : ∃ m, n = m + 1 := ⟨n - 1, by omega⟩
        have hq := HSg.out wr a g HA.out (by omega)
        have hnx := skN_le s has
        by_cases hh : (sk (s.data.toList.drop a)).headD 0 = 44
        · have hr := takes_yes (c := 44) g hh
          have hlt := head_lt (by decide) has hh
          rw [hr] at hq
          have HQ := hidP hq
          have Hr := hidP hr
          clear hq hr hh
          obtain ⟨a2, ha2⟩ : ∃ a2, a2 = a + skN (s.data.toList.drop a) + 1 := ⟨_, rfl⟩
          rw [← ha2] at HQ Hr hlt
          have Ha2 := hidP ha2
          have haa : a < a2 := by omega
          clear ha2
          go_wp2_with (first | (go_at_call 26; refine Calls.mono HQ.out ?_; rintro e' U1 ⟨hk, v, rfl, rfl, hR⟩; have HK1 := hidP hk; have HR1 := hidP hR; clear hk hR) | (go_at_call 35; refine Hid.out ?_))
          unfold Hid
          have HFL1 := hidP (HFL.out.kpn HK1.out HLt.out)
          have HKW := hidP (HK.out.tr HK1.out)
          refine Calls.mono (H35.out U1 a2 g HR1.out (by omega)) ?_
          intro e U2 hq
          obtain ⟨x, ko, kc, rfl, hF⟩ := fld_post hq
          have HFp := hidP hF
          have HFU2 := hidP (HFL1.out.kpn hF.1 HLt.out)
          clear hq hF
          have HO := hidP (HFU2.out.row.own.alloc (.cells #[Value.string x.name, .bool x.nul, .int .i64 x.kind, .int .i64 x.width, .int .i64 x.id, .int .i64 x.index, .slice ko x.kids.length kc] 37))
          have HSr := hidP (src41 U2 x ko kc)
          go_wp2_with (with_reducible show wpList Tryz.prog _ _ (Oper.mk (some 33) _ _ _ _ _ :: _) _ _; refine Hid.out ?_)
          unfold Hid
          refine wpList_append_anyN (P := Tryz.prog) _ rfl (.tmp 29) (.tmp 32) 24 24 rfl 37 (.agg #[.string ⟨#[]⟩, .bool false, .int .i64 0, .int .i64 0, .int .i64 0, .int .i64 0, .slice none 0 0]) 7 80 Tryz.underlying24 info41 rfl _ _ _ rfl HO.out _ _ _ rfl HSr.out (by (try simp); omega) (by (try simp); omega) ?_
          refine Hid.out ?_
          unfold Hid
          intro v' w1 hown hgrow hblk
          obtain ⟨vo', vc', rfl⟩ := own_formK hown
          have HLn := hidP (LIv.push (s := s) (r := r) (R := R) (c0 := c) (a2 := a2) HLt.out HKW.out HFL1.out HFp.out (fun x a3 g3 e h3 => by have h1 : a2 < a3 := HF.out _ _ _ e; exact ⟨⟨n, by omega, by rw [← HS.out]; exact (com_ok Hr.out e).symm⟩, by omega, by omega, by omega⟩) (fun o e => by rw [← HS.out]; exact com_err Hr.out e) hown hgrow hblk)
          have hL : acc.length + 1 = (acc ++ [(x, ko, kc)]).length := by simp
          rw [hL]
          have HM := hidP HLn.out.2
          clear hown hgrow hblk HSr HO HFU2 HFp HFL1 HFL HR1 HK1 HKW HQ Hr HS HA hL
          go_wp2_with fail
          go_roundw
          case rel => exact ⟨acc ++ [(x, ko, kc)], vo', vc', by simp, (by first | rfl | trivial | simp), HLn.out.1⟩
          case measure =>
            have h1 := HM.out
            have h2 := Hm.out
            have h3 := Ha2.out
            rw [h2]
            refine Nat.lt_of_le_of_lt h1 ?_
            omega
        have hr := takes_no (c := 44) g hh
        rw [hr] at hq
        have HQ := hidP hq
        have HE : Hid (R = .ok (acc.map (·.1), (a + skN (s.data.toList.drop a), g))) := by show R = _; rw [← HS.out]; exact com_end hr
        clear hq hr hh
        go_wp2_with (go_at_call 26; refine Calls.mono HQ.out ?_; rintro e' U1 ⟨hk, v, rfl, rfl, hR⟩; have HK1 := hidP (HK.out.tr hk); have HR1 := hidP hR; have HA1 := hidP (HFL.out.kpn hk HLt.out); clear hk hR)
        go_ret
        have hrow := HA1.out.rowAt (by show _ ≤ 1000000000000; omega)
        exact DnQ.ok HK1.out HE.out ⟨vo, vc, by rw [List.length_map]; rfl, by rw [List.length_map]; exact hrow.1, hrow.2⟩ HR1.out
      have HRo := hidP hRo
      have HQ := hidP (HSd.out wr o hD)
      clear hRo hD
      go_wp2_with (go_at_call 26; refine Calls.mono HQ.out ?_; rintro e' U1 ⟨hk, ⟨v, rfl, rfl⟩, hD⟩; have HK1 := hidP (HK.out.tr hk); have HD1 := hidP hD; clear hk hD)
      go_ret
      exact DnQ.err HK1.out HRo.out ⟨_, _, _, rfl⟩ HD1.out
end Go.Proofs.YtkodgneneiledaaGreatDoor.Kit
