import Derived.Test.YtkodgneneiledaaGreatDoorYI
set_option maxRecDepth 100000
set_option maxHeartbeats 4000000
namespace Go.Proofs.YtkodgneneiledaaGreatDoor.Kit
open Go.RowKit Go.Shelf Go.Deep
set_option linter.unusedVariables false
attribute [local go_sem] run_store_func
def DS (W : World) (p : Nat) (s : ByteArray) (q : Except Nat Ps) : Prop := match q with | .ok (a, g) => DA W p s a g | .error o => DD W p s o
def qs {α : Type} (q : Except Nat (α × Ps)) : Except Nat Ps := match q with | .ok (_, st) => .ok st | .error o => .error o
def bnd {α : Type} (q : Except Nat Ps) (r : Pr α) : Except Nat (α × Ps) := match q with | .ok st => r st | .error o => .error o
theorem DS.lt {W : World} {p : Nat} {s : ByteArray} {q : Except Nat Ps} (h : DS W p s q) : p < W.heap.size := by
  cases q with
  | ok st => exact DA.lt (a := st.1) (g := st.2) h
  | error o => exact DD.lt h
theorem DS.kept {W U : World} {p : Nat} {s : ByteArray} {q : Except Nat Ps} {S : Nat → Prop} (h : DS W p s q) (k : Keeps W U S) (hS : ∀ z, S z → z ≠ p ∧ ¬ IntsB p W z) : DS U p s q := by
  cases q with
  | ok st => exact DA.kept (a := st.1) (g := st.2) h k hS
  | error o => exact DD.kept h k fun z e => (hS z e).1
theorem DS.gr {W U : World} {p : Nat} {s : ByteArray} {q : Except Nat Ps} (h : DS W p s q) (k : Gr W U) : DS U p s q := h.kept k fun _ e => e.elim
def CmC {α : Type} (p : Nat) (s : ByteArray) (d : Nat) (F : Nat) (args : Array Value) (r : Pr α) (V : World → World → α → Value → Prop) (X : Value → Prop) : Prop :=
  ∀ W q, DS W p s q → (∀ st, q = .ok st → s.size - st.1 < d) → Calls Tryz.prog F args W (DnQ W p s (bnd q r) (V W) X)
theorem cm_of {α : Type} {p : Nat} {s : ByteArray} {d : Nat} {F : Nat} {args : Array Value} {r : Pr α} {V : World → World → α → Value → Prop} {X : Value → Prop} (h : DnC p s d F args r V X) (hd : DeC p s F args X) : CmC p s d F args r V X := fun W q hq hf => by
  cases q with
  | ok st => exact h W st.1 st.2 hq (hf st rfl)
  | error o =>
    refine Calls.mono (hd W o hq) ?_
    rintro e w' ⟨hk, ⟨v, rfl, hv⟩, hD⟩
    exact DnQ.err hk rfl hv hD
theorem unit_post {W w' : World} {p : Nat} {s : ByteArray} {q : Except Nat (Unit × Ps)} {e : Ending} (h : DnQ W p s q (fun _ _ v => v = .tuple #[]) (fun v => v = .tuple #[]) e w') : e = .returned (.tuple #[]) ∧ KpN W w' p ∧ DS w' p s (qs q) := by
  obtain ⟨hk, h⟩ := h
  cases q with
  | ok y => obtain ⟨x, a, g⟩ := y; obtain ⟨v, rfl, rfl, hA⟩ := h; exact ⟨rfl, hk, hA⟩
  | error o => obtain ⟨v, rfl, rfl, hD⟩ := h; exact ⟨rfl, hk, hD⟩
theorem bool_post {W w' : World} {p : Nat} {s : ByteArray} {q : Except Nat (Bool × Ps)} {e : Ending} (h : DnQ W p s q (fun _ b v => v = .bool b) (fun v => v = .bool false) e w') : ∃ b, e = .returned (.bool b) ∧ KpN W w' p ∧ DS w' p s (qs q) ∧ (∀ y st, q = .ok (y, st) → y = b) ∧ (∀ o, q = .error o → b = false) := by
  obtain ⟨hk, h⟩ := h
  cases q with
  | ok y => obtain ⟨x, a, g⟩ := y; obtain ⟨v, rfl, rfl, hA⟩ := h; exact ⟨x, rfl, hk, hA, (fun y st e => by cases e; rfl), fun o e => by cases e⟩
  | error o => obtain ⟨v, rfl, rfl, hD⟩ := h; exact ⟨false, rfl, hk, hD, (fun y st e => by cases e), fun _ _ => rfl⟩
theorem int_post {W w' : World} {p : Nat} {s : ByteArray} {q : Except Nat (Int × Ps)} {e : Ending} (h : DnQ W p s q (fun _ x v => v = .int .i64 x) (fun v => ∃ n, v = .int .i64 n) e w') : ∃ n : Int, e = .returned (.int .i64 n) ∧ KpN W w' p ∧ DS w' p s (qs q) ∧ (∀ y st, q = .ok (y, st) → y = n) := by
  obtain ⟨hk, h⟩ := h
  cases q with
  | ok y => obtain ⟨x, a, g⟩ := y; obtain ⟨v, rfl, rfl, hA⟩ := h; exact ⟨x, rfl, hk, hA, fun y st e => by cases e; rfl⟩
  | error o => obtain ⟨v, rfl, ⟨n, rfl⟩, hD⟩ := h; exact ⟨n, rfl, hk, hD, fun y st e => by cases e⟩
theorem fld_post2 {W w' : World} {p d : Nat} {s : ByteArray} {q : Except Nat (FT × Ps)} {e : Ending} (h : DnQ W p s q (FV p d W) XF e w') : ∃ x ko kc, e = .returned (.agg #[.string x.name, .bool x.nul, .int .i64 x.kind, .int .i64 x.width, .int .i64 x.id, .int .i64 x.index, .slice ko x.kids.length kc]) ∧ KpN W w' p ∧ DS w' p s (qs q) ∧ (∀ y st, q = .ok (y, st) → y = x ∧ x.kids.length ≤ kc ∧ RowAt (NB p W w') w' d ko x.kids) := by
  obtain ⟨hk, h⟩ := h
  cases q with
  | ok y =>
    obtain ⟨x, a, g⟩ := y
    obtain ⟨v, rfl, ⟨ko, kc, rfl, hkc, hr⟩, hA⟩ := h
    exact ⟨x, ko, kc, rfl, hk, hA, fun y st e => by cases e; exact ⟨rfl, hkc, hr⟩⟩
  | error o =>
    obtain ⟨v, rfl, ⟨x, ko, kc, rfl⟩, hD⟩ := h
    exact ⟨x, ko, kc, rfl, hk, hD, fun y st e => by cases e⟩
theorem flds_post {W w' : World} {p d : Nat} {s : ByteArray} {q : Except Nat (List FT × Ps)} {e : Ending} (h : DnQ W p s q (LV p d W) XL e w') : ∃ vo n vc, e = .returned (.slice vo n vc) ∧ KpN W w' p ∧ DS w' p s (qs q) ∧ (∀ l st, q = .ok (l, st) → n = l.length ∧ l.length ≤ vc ∧ RowAt (NB p W w') w' (d + 1) vo l) := by
  obtain ⟨hk, h⟩ := h
  cases q with
  | ok y =>
    obtain ⟨l, a, g⟩ := y
    obtain ⟨v, rfl, ⟨vo, vc, rfl, hkc, hr⟩, hA⟩ := h
    exact ⟨vo, _, vc, rfl, hk, hA, fun y st e => by cases e; exact ⟨rfl, hkc, hr⟩⟩
  | error o =>
    obtain ⟨v, rfl, ⟨vo, n, vc, rfl⟩, hD⟩ := h
    exact ⟨vo, n, vc, rfl, hk, hD, fun y st e => by cases e⟩
theorem fields25_dead (p : Nat) (s : ByteArray) (h35d : DeC p s 35 #[.pointer (some ⟨p, 0, none⟩)] XF) (nn : Bool) : DeC p s 25 #[.pointer (some ⟨p, 0, none⟩), .bool nn] XL := by
  intro W o hD
  have HD := hidP hD
  have H35d := hidP h35d
  have HSd := hidP (sign26_dead p s ⟨#[44]⟩)
  have HLt := hidP hD.lt
  have HFl := hidP (fl_nil p 0 W)
  have HG1 := hidP (gr_alloc W (.cells #[] 37))
  obtain ⟨W1, hW1⟩ : ∃ W1, W.alloc (.cells #[] 37) = W1 := ⟨_, rfl⟩
  rw [hW1] at HFl HG1
  have HW1 := hidP hW1
  obtain ⟨b0, hb0⟩ : ∃ b0, b0 = W.heap.size := ⟨_, rfl⟩
  rw [← hb0] at HFl
  have Hb0 := hidP hb0
  obtain ⟨b, hsee⟩ := see_dd p s o W1 (hD.gr HG1.out)
  unfold tokV at hsee
  rcases hTok : tokOf s.data.toList b with ⟨tk, tx, tn, tf⟩
  rw [hTok] at hsee
  (try dsimp only at hsee)
  have HSee := hidP hsee
  clear hTok hsee hW1 hb0 hD h35d
  cases nn with
  | false =>
    go_enter Tryz.func25, Tryz.ntmps25
    go_wp2_with (go_at_call 24; refine Hid.out ?_)
    unfold Hid
    rw [HW1.out, ← Hb0.out]
    clear HW1
    refine Calls.mono HSee.out ?_
    rintro e u ⟨hgu, rfl⟩
    have HGu := hidP (HG1.out.trans hgu fun _ _ h => h)
    have HFu := hidP (HFl.out.kpn (Gr.n p hgu) HLt.out)
    clear hgu
    go_wp2_with (go_at_call 35; refine Hid.out ?_)
    unfold Hid
    have hz2 := gr_alloc u (.cells #[.int .i64 tk, .string tx, .int .i64 (b : Int), .int .i64 (tn : Int), .int .i64 tf] 64)
    have HGU := hidP (HGu.out.trans hz2 fun _ _ h => h)
    have HFU := hidP (HFu.out.kpn (Gr.n p hz2) HLt.out)
    clear hz2 HGu HFu
    generalize u.alloc (.cells #[.int .i64 tk, .string tx, .int .i64 (b : Int), .int .i64 (tn : Int), .int .i64 tf] 64) = U at HGU HFU ⊢
    refine Calls.mono (H35d.out U o (HD.out.gr HGU.out)) ?_
    rintro e U2 ⟨hk, ⟨v, rfl, ⟨x, ko, kc, rfl⟩⟩, hD2⟩
    have HD2 := hidP hD2
    have HK := hidP ((Gr.n p HGU.out).tr hk)
    have HFU2 := hidP (HFU.out.kpn hk HLt.out)
    clear hk hD2
    have HO := hidP (HFU2.out.row.own.alloc (.cells #[Value.string x.name, .bool x.nul, .int .i64 x.kind, .int .i64 x.width, .int .i64 x.id, .int .i64 x.index, .slice ko x.kids.length kc] 37))
    have HSr := hidP (src41 U2 x ko kc)
    go_wp2_with (with_reducible show wpList Tryz.prog _ _ (Oper.mk (some 26) _ _ _ _ _ :: _) _ _; refine Hid.out ?_)
    unfold Hid
    refine wpList_append_anyN (P := Tryz.prog) _ rfl (.tmp 22) (.tmp 25) 24 24 rfl 37 (.agg #[.string ⟨#[]⟩, .bool false, .int .i64 0, .int .i64 0, .int .i64 0, .int .i64 0, .slice none 0 0]) 7 80 Tryz.underlying24 info41 rfl _ _ _ rfl HO.out _ _ _ rfl HSr.out (by decide) (by decide) ?_
    refine Hid.out ?_
    unfold Hid
    intro v' w1 hown hgrow hblk
    obtain ⟨vo', vc', rfl⟩ := own_formK hown
    have kA : Keeps U2 w1 (fun z => (Value.slice (some ⟨b0, 0, none⟩) 0 0).ownBlock = some z) := ((gr_alloc U2 _).mono fun _ _ h => h.elim).trans (Keeps.ofGrown hgrow) (fun _ _ h => h)
    have hzp : ∀ z, (Value.slice (some ⟨b0, 0, none⟩) 0 0).ownBlock = some z → z = b0 := fun z h => by simpa [Value.ownBlock] using h.symm
    have HD3 := hidP (HD2.out.kept kA fun z h => by have := hzp z h; have := Hb0.out; have := HLt.out; omega)
    have HK3 : Hid (KpN W w1 p) := HK.out.trans kA fun j hj h => by have := hzp j h; have := Hb0.out; omega
    clear hown hgrow hblk HSr HO HFU2 HFU HGU HD2 HK kA hzp
    go_wp2_with fail
    go_loopw [5] (fun v wr => v = .slice vo' 1 vc' ∧ Hid (wr = w1)) (fun _ _ => 0)
    case atStart => exact ⟨rfl, rfl⟩
    case round =>
      obtain ⟨rfl, hu⟩ := hrel
      obtain rfl : w1 = wr := hu.out.symm
      have HQ := hidP (HSd.out w1 o HD3.out)
      go_wp2_with (go_at_call 26; refine Calls.mono HQ.out ?_; rintro e' U1 ⟨hk, ⟨v, rfl, rfl⟩, hD⟩; have HK1 := hidP (HK3.out.tr hk); have HD1 := hidP hD; clear hk hD)
      go_ret
      exact DeQ.mk' HK1.out ⟨_, _, _, rfl⟩ HD1.out
  | true =>
    by_cases h2 : tk = 2
    · have hek : (tk == 2) = true := by rw [h2]; rfl
      clear h2
      cases he : (tx.toList == [41]) with
      | true =>
        go_enter Tryz.func25, Tryz.ntmps25
        go_wp2_with (go_at_call 24; refine Hid.out ?_)
        unfold Hid
        rw [HW1.out, ← Hb0.out]
        clear HW1
        refine Calls.mono HSee.out ?_
        rintro e u ⟨hgu, rfl⟩
        have HGu := hidP (HG1.out.trans hgu fun _ _ h => h)
        have HFu := hidP (HFl.out.kpn (Gr.n p hgu) HLt.out)
        clear hgu
        go_wp2_with fail
        go_ret
        have hg2 := HGu.out.trans (gr_alloc u (.cells #[.int .i64 tk, .string tx, .int .i64 (b : Int), .int .i64 (tn : Int), .int .i64 tf] 64)) fun _ _ h => h
        exact DeQ.mk' (Gr.n p hg2) ⟨_, _, _, rfl⟩ (HD.out.gr hg2)
      | false =>
        go_enter Tryz.func25, Tryz.ntmps25
        go_wp2_with (go_at_call 24; refine Hid.out ?_)
        unfold Hid
        rw [HW1.out, ← Hb0.out]
        clear HW1
        refine Calls.mono HSee.out ?_
        rintro e u ⟨hgu, rfl⟩
        have HGu := hidP (HG1.out.trans hgu fun _ _ h => h)
        have HFu := hidP (HFl.out.kpn (Gr.n p hgu) HLt.out)
        clear hgu
        go_wp2_with (go_at_call 35; refine Hid.out ?_)
        unfold Hid
        have hz2 := gr_alloc u (.cells #[.int .i64 tk, .string tx, .int .i64 (b : Int), .int .i64 (tn : Int), .int .i64 tf] 64)
        have HGU := hidP (HGu.out.trans hz2 fun _ _ h => h)
        have HFU := hidP (HFu.out.kpn (Gr.n p hz2) HLt.out)
        clear hz2 HGu HFu
        generalize u.alloc (.cells #[.int .i64 tk, .string tx, .int .i64 (b : Int), .int .i64 (tn : Int), .int .i64 tf] 64) = U at HGU HFU ⊢
        refine Calls.mono (H35d.out U o (HD.out.gr HGU.out)) ?_
        rintro e U2 ⟨hk, ⟨v, rfl, ⟨x, ko, kc, rfl⟩⟩, hD2⟩
        have HD2 := hidP hD2
        have HK := hidP ((Gr.n p HGU.out).tr hk)
        have HFU2 := hidP (HFU.out.kpn hk HLt.out)
        clear hk hD2
        have HO := hidP (HFU2.out.row.own.alloc (.cells #[Value.string x.name, .bool x.nul, .int .i64 x.kind, .int .i64 x.width, .int .i64 x.id, .int .i64 x.index, .slice ko x.kids.length kc] 37))
        have HSr := hidP (src41 U2 x ko kc)
        go_wp2_with (with_reducible show wpList Tryz.prog _ _ (Oper.mk (some 26) _ _ _ _ _ :: _) _ _; refine Hid.out ?_)
        unfold Hid
        refine wpList_append_anyN (P := Tryz.prog) _ rfl (.tmp 22) (.tmp 25) 24 24 rfl 37 (.agg #[.string ⟨#[]⟩, .bool false, .int .i64 0, .int .i64 0, .int .i64 0, .int .i64 0, .slice none 0 0]) 7 80 Tryz.underlying24 info41 rfl _ _ _ rfl HO.out _ _ _ rfl HSr.out (by decide) (by decide) ?_
        refine Hid.out ?_
        unfold Hid
        intro v' w1 hown hgrow hblk
        obtain ⟨vo', vc', rfl⟩ := own_formK hown
        have kA : Keeps U2 w1 (fun z => (Value.slice (some ⟨b0, 0, none⟩) 0 0).ownBlock = some z) := ((gr_alloc U2 _).mono fun _ _ h => h.elim).trans (Keeps.ofGrown hgrow) (fun _ _ h => h)
        have hzp : ∀ z, (Value.slice (some ⟨b0, 0, none⟩) 0 0).ownBlock = some z → z = b0 := fun z h => by simpa [Value.ownBlock] using h.symm
        have HD3 := hidP (HD2.out.kept kA fun z h => by have := hzp z h; have := Hb0.out; have := HLt.out; omega)
        have HK3 : Hid (KpN W w1 p) := HK.out.trans kA fun j hj h => by have := hzp j h; have := Hb0.out; omega
        clear hown hgrow hblk HSr HO HFU2 HFU HGU HD2 HK kA hzp
        go_wp2_with fail
        go_loopw [5] (fun v wr => v = .slice vo' 1 vc' ∧ Hid (wr = w1)) (fun _ _ => 0)
        case atStart => exact ⟨rfl, rfl⟩
        case round =>
          obtain ⟨rfl, hu⟩ := hrel
          obtain rfl : w1 = wr := hu.out.symm
          have HQ := hidP (HSd.out w1 o HD3.out)
          go_wp2_with (go_at_call 26; refine Calls.mono HQ.out ?_; rintro e' U1 ⟨hk, ⟨v, rfl, rfl⟩, hD⟩; have HK1 := hidP (HK3.out.tr hk); have HD1 := hidP hD; clear hk hD)
          go_ret
          exact DeQ.mk' HK1.out ⟨_, _, _, rfl⟩ HD1.out
    have hek : (tk == 2) = false := beq_eq_false_iff_ne.2 h2
    clear h2
    go_enter Tryz.func25, Tryz.ntmps25
    go_wp2_with (go_at_call 24; refine Hid.out ?_)
    unfold Hid
    rw [HW1.out, ← Hb0.out]
    clear HW1
    refine Calls.mono HSee.out ?_
    rintro e u ⟨hgu, rfl⟩
    have HGu := hidP (HG1.out.trans hgu fun _ _ h => h)
    have HFu := hidP (HFl.out.kpn (Gr.n p hgu) HLt.out)
    clear hgu
    go_wp2_with (go_at_call 35; refine Hid.out ?_)
    unfold Hid
    have hz2 := gr_alloc u (.cells #[.int .i64 tk, .string tx, .int .i64 (b : Int), .int .i64 (tn : Int), .int .i64 tf] 64)
    have HGU := hidP (HGu.out.trans hz2 fun _ _ h => h)
    have HFU := hidP (HFu.out.kpn (Gr.n p hz2) HLt.out)
    clear hz2 HGu HFu
    generalize u.alloc (.cells #[.int .i64 tk, .string tx, .int .i64 (b : Int), .int .i64 (tn : Int), .int .i64 tf] 64) = U at HGU HFU ⊢
    refine Calls.mono (H35d.out U o (HD.out.gr HGU.out)) ?_
    rintro e U2 ⟨hk, ⟨v, rfl, ⟨x, ko, kc, rfl⟩⟩, hD2⟩
    have HD2 := hidP hD2
    have HK := hidP ((Gr.n p HGU.out).tr hk)
    have HFU2 := hidP (HFU.out.kpn hk HLt.out)
    clear hk hD2
    have HO := hidP (HFU2.out.row.own.alloc (.cells #[Value.string x.name, .bool x.nul, .int .i64 x.kind, .int .i64 x.width, .int .i64 x.id, .int .i64 x.index, .slice ko x.kids.length kc] 37))
    have HSr := hidP (src41 U2 x ko kc)
    go_wp2_with (with_reducible show wpList Tryz.prog _ _ (Oper.mk (some 26) _ _ _ _ _ :: _) _ _; refine Hid.out ?_)
    unfold Hid
    refine wpList_append_anyN (P := Tryz.prog) _ rfl (.tmp 22) (.tmp 25) 24 24 rfl 37 (.agg #[.string ⟨#[]⟩, .bool false, .int .i64 0, .int .i64 0, .int .i64 0, .int .i64 0, .slice none 0 0]) 7 80 Tryz.underlying24 info41 rfl _ _ _ rfl HO.out _ _ _ rfl HSr.out (by decide) (by decide) ?_
    refine Hid.out ?_
    unfold Hid
    intro v' w1 hown hgrow hblk
    obtain ⟨vo', vc', rfl⟩ := own_formK hown
    have kA : Keeps U2 w1 (fun z => (Value.slice (some ⟨b0, 0, none⟩) 0 0).ownBlock = some z) := ((gr_alloc U2 _).mono fun _ _ h => h.elim).trans (Keeps.ofGrown hgrow) (fun _ _ h => h)
    have hzp : ∀ z, (Value.slice (some ⟨b0, 0, none⟩) 0 0).ownBlock = some z → z = b0 := fun z h => by simpa [Value.ownBlock] using h.symm
    have HD3 := hidP (HD2.out.kept kA fun z h => by have := hzp z h; have := Hb0.out; have := HLt.out; omega)
    have HK3 : Hid (KpN W w1 p) := HK.out.trans kA fun j hj h => by have := hzp j h; have := Hb0.out; omega
    clear hown hgrow hblk HSr HO HFU2 HFU HGU HD2 HK kA hzp
    go_wp2_with fail
    go_loopw [5] (fun v wr => v = .slice vo' 1 vc' ∧ Hid (wr = w1)) (fun _ _ => 0)
    case atStart => exact ⟨rfl, rfl⟩
    case round =>
      obtain ⟨rfl, hu⟩ := hrel
      obtain rfl : w1 = wr := hu.out.symm
      have HQ := hidP (HSd.out w1 o HD3.out)
      go_wp2_with (go_at_call 26; refine Calls.mono HQ.out ?_; rintro e' U1 ⟨hk, ⟨v, rfl, rfl⟩, hD⟩; have HK1 := hidP (HK3.out.tr hk); have HD1 := hidP hD; clear hk hD)
      go_ret
      exact DeQ.mk' HK1.out ⟨_, _, _, rfl⟩ HD1.out
end Go.Proofs.YtkodgneneiledaaGreatDoor.Kit
