import Derived.Test.YtfoifmacobldbaaGreatDoorTA
import Derived.Test.YtfoifmacobldbaaGreatDoorQA
import Derived.Deep.RegionHeld3
set_option maxRecDepth 100000
set_option maxHeartbeats 4000000
namespace Go.Proofs.YtfoifmacobldbaaGreatDoor.Kit
open Go.RowKit Go.Shelf Go.Deep
set_option linter.unusedVariables false
set_option linter.unusedSimpArgs false
attribute [local go_sem] run_store_func
/-! ### digits 64, fixed 65 -/
/-- the reader, and bytes that the call has made -/
structure RB (W wr : World) (p : Nat) (s : ByteArray) (a : Nat) (er : Int) (vo : Option Addr) (vc n : Nat) (bs : List UInt8) : Prop where
  kp : Keeps W wr (fun z => z = p)
  rd : Rd wr p s a er
  own : wr.ownsRow 0 5 1 (.slice vo n vc) n (bv bs)
  new : ∀ g, (Value.slice vo n vc).ownBlock = some g → W.heap.size ≤ g
  lt : p < W.heap.size
theorem RB.start {W wr : World} {p : Nat} {s : ByteArray} {a : Nat} {er : Int} (h : Rd wr p s a er) (k : Keeps W wr (fun z => z = p)) (hl : p < W.heap.size) : RB W wr p s a er none 0 0 [] := ⟨k, h, ⟨rfl, .inl ⟨rfl, rfl⟩⟩, (fun g e => by cases e), hl⟩
theorem RB.next {W wr wr' : World} {p : Nat} {s : ByteArray} {a a' : Nat} {er er' : Int} {vo : Option Addr} {vc n : Nat} {bs : List UInt8} (h : RB W wr p s a er vo vc n bs) (k : Keeps wr wr' (fun z => z = p)) (r : Rd wr' p s a' er') : RB W wr' p s a' er' vo vc n bs :=
  ⟨h.kp.trans k (fun _ _ h => h), r, own_kp h.own fun b e => k.block b (own_lt h.own b e) (fun q => by have := h.new b e; have := h.lt; omega), h.new, h.lt⟩
theorem RB.gr {W wr wr' : World} {p : Nat} {s : ByteArray} {a : Nat} {er : Int} {vo : Option Addr} {vc n : Nat} {bs : List UInt8} (h : RB W wr p s a er vo vc n bs) (k : Gr wr wr') : RB W wr' p s a er vo vc n bs :=
  h.next (k.mono fun _ _ h => h.elim) (h.rd.gr k)
theorem RB.app {W wr w2 : World} {p : Nat} {s : ByteArray} {a : Nat} {er : Int} {vo vo' : Option Addr} {vc vc' n m : Nat} {bs us : List UInt8} {vs : List Value} (h : RB W wr p s a er vo vc n bs) (hvs : vs = bv us)
    (ho : w2.ownsRow 0 5 1 (.slice vo' m vc') m (bv bs ++ vs)) (hg : wr.grownBy w2 (Value.slice vo n vc).ownBlock)
    (hor : (Value.slice vo' m vc').ownBlock = (Value.slice vo n vc).ownBlock ∨ ∀ g, (Value.slice vo' m vc').ownBlock = some g → wr.heap.size ≤ g) : RB W w2 p s a er vo' vc' m (bs ++ us) := by
  have k := Keeps.ofGrown hg
  have hlt := h.lt
  refine ⟨h.kp.trans k (fun j hj e => by have := h.new j e; omega), ⟨(k.block p h.rd.lt (fun e => by have := h.new p e; omega)).trans h.rd.box, h.rd.len, h.rd.pos⟩, ?_, fun g hg' => ?_, h.lt⟩
  · have e : bv (bs ++ us) = bv bs ++ vs := by rw [hvs]; simp [bv]
    rw [e]; exact ho
  · rcases hor with h1 | h1
    · rw [h1] at hg'; exact h.new g hg'
    · exact Nat.le_trans h.kp.size (h1 g hg')
theorem RB.len {W wr : World} {p : Nat} {s : ByteArray} {a : Nat} {er : Int} {vo : Option Addr} {vc n : Nat} {bs : List UInt8} (h : RB W wr p s a er vo vc n bs) : bs.length = n := by have := h.own.1; simpa [bv] using this
theorem RB.str {W wr : World} {p : Nat} {s : ByteArray} {a : Nat} {er : Int} {vo : Option Addr} {vc n : Nat} {bs : List UInt8} (h : RB W wr p s a er vo vc n bs) : (convert 52 9 (.slice vo n vc)).run Tryz.prog wr = .ok (.string ⟨bs.toArray⟩) wr := by
  have hl := h.len
  rcases h.own.2 with ⟨e, e0⟩ | ⟨g, cap, cur, e, _⟩
  · cases e
    obtain rfl : bs = [] := List.eq_nil_of_length_eq_zero hl
    show Eq _ _
    kernel_rfl
  · cases e
    subst hl
    refine run_convert_bytes_back wr 52 9 5 ⟨g, 0, none⟩ vc bs Tryz.underlying52 Tryz.underlying5 Tryz.underlying9 fun j hj => ?_
    exact h.own.cells rfl j _ (by simp [bv, List.getElem?_eq_getElem hj])
/-- a text is read, or none -/
def TxA (W : World) (p : Nat) (s : ByteArray) (er : Int) (o : Option (List UInt8 × List UInt8)) (e : Ending) (W' : World) : Prop :=
  Keeps W W' (fun z => z = p) ∧ match o with
    | some (l, t) => e = .returned (.tuple #[.string ⟨l.toArray⟩, .bool true]) ∧ t.length ≤ s.size ∧ t = s.data.toList.drop (s.size - t.length) ∧ Rd W' p s (s.size - t.length) er
    | none => e = .returned (.tuple #[.string ⟨#[]⟩, .bool false]) ∧ Bad W' p s
theorem pre1 (c : UInt8) (l : List UInt8) : [c].isPrefixOf l = (l.head? == some c) := by
  cases l with
  | nil => rfl
  | cons x r =>
    rw [Bool.eq_iff_iff]
    simp [List.isPrefixOf]
    exact eq_comm
theorem rdHex_q {l : List UInt8} (h : [34].isPrefixOf l = true) : QF.rdHex l = some ([], l.drop 1) := by
  rw [pre1] at h
  cases l with
  | nil => cases h
  | cons x r =>
    have : x = 34 := by simpa using h
    subst this
    unfold QF.rdHex
    rw [if_pos rfl]
    rfl
theorem rdHex_n {l : List UInt8} (h : [34].isPrefixOf l = false) : QF.rdHex l = (match l.head?.bind QC.hexV with
    | none => none
    | some a => match (l.drop 1).head?.bind QC.hexV with
      | none => none
      | some b => (QF.rdHex (l.drop 2)).map fun r => (UInt8.ofNat (a * 16 + b) :: r.1, r.2)) := by
  rw [pre1] at h
  cases l with
  | nil => rfl
  | cons x r =>
    have hx : ¬ x = 34 := by simpa using h
    conv => lhs; rw [QF.rdHex.eq_def]
    simp only [if_neg hx]
    cases r with
    | nil =>
      simp only [List.head?_cons, Option.bind_some, List.drop_succ_cons, List.drop_zero, List.head?_nil, Option.bind_none]
      cases QC.hexV x <;> rfl
    | cons y r =>
      simp only [List.head?_cons, Option.bind_some, List.drop_succ_cons, List.drop_zero]
      cases QC.hexV x with
      | none => rfl
      | some a =>
        cases QC.hexV y with
        | none => rfl
        | some b =>
          simp only
          cases QF.rdHex r with
          | none => rfl
          | some q => rfl
theorem or_u8 (x y : Nat) (hx : x < 16) (hy : y < 16) : bits .or .u8 ((x : Int) * 16) (y : Int) = (((UInt8.ofNat (x * 16 + y)).toNat : Nat) : Int) := by
  have key : ∀ a b : Fin 16, bits .or .u8 ((a.val : Int) * 16) (b.val : Int) = (((UInt8.ofNat (a.val * 16 + b.val)).toNat : Nat) : Int) := by decide +kernel
  exact key ⟨x, hx⟩ ⟨y, hy⟩
/-- where digits stand -/
def DgI (W wr : World) (p : Nat) (s : ByteArray) (er : Int) (R : Option (List UInt8 × List UInt8)) (k : Nat) (vo : Option Addr) (vc n : Nat) : Prop := ∃ bs, RB W wr p s k er vo vc n bs ∧ R = (QF.rdHex (s.data.toList.drop k)).map fun r => (bs ++ r.1, r.2)
theorem takes_iff (q l : List UInt8) : QB.takes q l = if q.isPrefixOf l = true then some (l.drop q.length) else none := rfl
theorem digits64 (p : Nat) (s : ByteArray) (W : World) (a : Nat) (er : Int) (hR : Rd W p s a er) : Calls Tryz.prog 64 #[.pointer (some ⟨p, 0, none⟩)] W (TxA W p s er ((QB.takes [120, 34] (s.data.toList.drop a)).bind QF.rdHex)) := by
  obtain ⟨b, hb⟩ : ∃ b, [120, 34].isPrefixOf (s.data.toList.drop a) = b := ⟨_, rfl⟩
  have HM := hidM (must98 p s ⟨#[120, 34]⟩ b W a er hR (by decide) hb)
  rw [takes_iff, hb]
  have HLT := hidM hR.lt
  have HSL := hidM hR.len
  clear hR
  cases b with
  | false =>
    clear hb
    go_enter Tryz.func64, Tryz.ntmps64
    go_wp2_with (go_at_call 98; refine HM.out.mono ?_; rintro e u ⟨rfl, hk, hr⟩; have HK := hidM hk; have HR := hidM hr; clear hk hr)
    go_ret2
    exact ⟨HK.out, rfl, HR.out.isBad⟩
  | true =>
    rw [if_pos rfl, Option.bind_some, List.drop_drop]
    show Calls _ _ _ _ (TxA W p s er (QF.rdHex (s.data.toList.drop (a + 2))))
    obtain ⟨R, hRe⟩ : ∃ R, R = QF.rdHex (s.data.toList.drop (a + 2)) := ⟨_, rfl⟩
    rw [← hRe]
    have HRe := hidM hRe
    clear hb hRe
    go_enter Tryz.func64, Tryz.ntmps64
    go_wp2_with (go_at_call 98; refine HM.out.mono ?_; rintro e u ⟨rfl, hk, hr⟩; have HK := hidM hk; have HR := hidM hr; clear hk hr)
    have HI : Hid (DgI W u p s er R (a + 2) none 0 0) := ⟨[], RB.start HR.out HK.out HLT.out, by rw [HRe.out]; cases QF.rdHex (s.data.toList.drop (a + 2)) <;> rfl⟩
    clear HR HK HM HRe
    go_loopw [4] (fun x wr => ∃ (k m : Nat) (vo : Option Addr) (vc : Nat), k ≤ s.size ∧ m ≤ k ∧ x = .slice vo m vc ∧ Hid (DgI W wr p s er R k vo vc m)) (fun _ wr => s.size - (match wr.cell? ⟨p, 1, none⟩ with | some v => (intOf v).toNat | none => 0))
    case atStart => exact ⟨a + 2, 0, none, 0, HI.out.choose_spec.1.rd.pos, by omega, rfl, HI⟩
    case round =>
      obtain ⟨k, m, vo, vc, hk, hm, rfl, HD⟩ := hrel
      clear HI
      obtain ⟨bs, hb, hq⟩ := HD.out
      have HB := hidM hb
      have HQ := hidM hq
      have hsl := HSL.out
      obtain ⟨b2, hb2⟩ : ∃ b2, [34].isPrefixOf (s.data.toList.drop k) = b2 := ⟨_, rfl⟩
      have HT := hidM (takes99 p s ⟨#[34]⟩ b2 wr k er hb.rd (by decide) hb2)
      have HCW : Hid (wr.cell? ⟨p, 1, none⟩ = some (.int .i64 (k : Int))) := hb.rd.cells.2.1
      clear hb hq HD
      cases b2 with
      | true =>
        have HE : Hid (R = some (bs, s.data.toList.drop (k + 1))) := by
          show _ = _
          rw [HQ.out, rdHex_q hb2, List.drop_drop]
          simp
        have hlt : k < s.size := by
          rcases Nat.lt_or_ge k s.size with h | h
          · exact h
          · rw [List.drop_of_length_le (by simpa using h)] at hb2; cases hb2
        clear hb2 HQ
        go_wp2_with (go_at_call 99; refine HT.out.mono ?_; rintro e u2 ⟨rfl, hk2, hr2⟩; have HB2 := hidM (HB.out.next hk2 hr2); have hcv := HB2.out.str; clear hk2 hr2)
        go_ret2
        refine ⟨HB2.out.kp, ?_⟩
        rw [HE.out]
        have e3 : (s.data.toList.drop (k + 1)).length = s.size - (k + 1) := by simp
        have e4 : s.size - (s.size - (k + 1)) = k + 1 := by omega
        exact ⟨rfl, by rw [e3]; omega, by rw [e3, e4], by rw [e3, e4]; exact HB2.out.rd⟩
      | false =>
        have HE := hidM (rdHex_n hb2)
        clear hb2
        rw [HE.out] at HQ
        clear HE
        obtain ⟨o1, ho1⟩ : ∃ o1, (s.data.toList.drop k).head?.bind QC.hexV = o1 := ⟨_, rfl⟩
        have HD1 : Hid (∀ W2, Rd W2 p s k er → Calls Tryz.prog 101 #[.pointer (some ⟨p, 0, none⟩)] W2 (DgA W2 p s k er o1)) := fun W2 h => by rw [← ho1]; exact digit101 p s W2 k er h
        rw [ho1] at HQ
        have h16 : ∀ d, o1 = some d → d < 16 := fun d hd => by
          rw [hd] at ho1
          cases hh : (s.data.toList.drop k).head? with
          | none => rw [hh] at ho1; cases ho1
          | some c => rw [hh] at ho1; exact (QF.hexV_some ho1).1
        have H16 := hidM h16
        have HLK : Hid (o1 ≠ none → k < s.size) := fun h => by
          rcases Nat.lt_or_ge k s.size with q | q
          · exact q
          · rw [List.drop_of_length_le (by simpa using q)] at ho1; exact absurd ho1.symm h
        clear ho1 h16
        cases o1 with
        | none =>
          go_wp2_with (first | (go_at_call 99; refine HT.out.mono ?_; rintro e u2 ⟨rfl, hk2, hr2⟩; have HB2 := hidM (HB.out.next hk2 hr2); clear hk2 hr2) | (go_at_call 101; refine (HD1.out _ HB2.out.rd).mono ?_; rintro e u3 ⟨hk3, rfl, hbad⟩; have HK3 := hidM hk3; have HBAD := hidM hbad; clear hk3 hbad))
          go_ret2
          refine ⟨HB2.out.kp.trans HK3.out (fun _ _ h => h), ?_⟩
          rw [HQ.out]
          exact ⟨rfl, HBAD.out⟩
        | some d1 =>
          have hlt := HLK.out (by simp)
          have hd1 := H16.out d1 rfl
          obtain ⟨o2, ho2⟩ : ∃ o2, (s.data.toList.drop (k + 1)).head?.bind QC.hexV = o2 := ⟨_, rfl⟩
          have HD2 : Hid (∀ W2, Rd W2 p s (k + 1) er → Calls Tryz.prog 101 #[.pointer (some ⟨p, 0, none⟩)] W2 (DgA W2 p s (k + 1) er o2)) := fun W2 h => by rw [← ho2]; exact digit101 p s W2 (k + 1) er h
          have HQ2 : Hid (R = Option.map (fun r => (bs ++ r.1, r.2)) (match o2 with | none => none | some b => (QF.rdHex (s.data.toList.drop (k + 2))).map fun r => (UInt8.ofNat (d1 * 16 + b) :: r.1, r.2))) := by
            have h := HQ.out
            simp only [List.drop_drop] at h
            rw [ho2] at h
            exact h
          have h16' : ∀ d, o2 = some d → d < 16 := fun d hd => by
            rw [hd] at ho2
            cases hh : (s.data.toList.drop (k + 1)).head? with
            | none => rw [hh] at ho2; cases ho2
            | some c => rw [hh] at ho2; exact (QF.hexV_some ho2).1
          have H16' := hidM h16'
          have HLK' : Hid (o2 ≠ none → k + 1 < s.size) := fun h => by
            rcases Nat.lt_or_ge (k + 1) s.size with q | q
            · exact q
            · rw [List.drop_of_length_le (by simpa using q)] at ho2; exact absurd ho2.symm h
          clear ho2 h16' HQ
          cases o2 with
          | none =>
            go_wp2_with (first | (go_at_call 99; refine HT.out.mono ?_; rintro e u2 ⟨rfl, hk2, hr2⟩; have HB2 := hidM (HB.out.next hk2 hr2); clear hk2 hr2) | (go_at_call 101; refine (HD1.out _ HB2.out.rd).mono ?_; rintro e u3 ⟨hk3, rfl, hr3⟩; have HB3 := hidM (HB2.out.next hk3 hr3); clear hk3 hr3 HD1) | (go_at_call 101; refine (HD2.out _ HB3.out.rd).mono ?_; rintro e u4 ⟨hk4, rfl, hbad⟩; have HK4 := hidM hk4; have HBAD := hidM hbad; clear hk4 hbad))
            go_ret2
            refine ⟨HB3.out.kp.trans HK4.out (fun _ _ h => h), ?_⟩
            rw [HQ2.out]
            exact ⟨rfl, HBAD.out⟩
          | some d2 =>
            have hlt2 := HLK'.out (by simp)
            have hd2 := H16'.out d2 rfl
            have hor := or_u8 d1 d2 hd1 hd2
            have hsh : IntKind.u8.wrap ((d1 : Int) * 16) = (d1 : Int) * 16 := by simp [IntKind.wrap, IntKind.bits, IntKind.signed]; omega
            obtain ⟨c, hc⟩ : ∃ c, c = UInt8.ofNat (d1 * 16 + d2) := ⟨_, rfl⟩
            replace HQ2 : Hid (R = Option.map (fun r => (bs ++ r.1, r.2)) ((QF.rdHex (s.data.toList.drop (k + 2))).map fun r => (UInt8.ofNat (d1 * 16 + d2) :: r.1, r.2))) := HQ2.out
            rw [← hc] at HQ2 hor
            clear hc
            go_wp2_with (first | (go_at_call 99; refine HT.out.mono ?_; rintro e u2 ⟨rfl, hk2, hr2⟩; have HB2 := hidM (HB.out.next hk2 hr2); clear hk2 hr2) | (go_at_call 101; refine (HD1.out _ HB2.out.rd).mono ?_; rintro e u3 ⟨hk3, rfl, hr3⟩; have HB3 := hidM (HB2.out.next hk3 hr3); clear hk3 hr3 HD1) | (go_at_call 101; refine (HD2.out _ HB3.out.rd).mono ?_; rintro e u4 ⟨hk4, rfl, hr4⟩; have HB4 := hidM (HB3.out.next hk4 hr4); clear hk4 hr4 HD2) | (at_builtin; refine Hid.out ?_))
            unfold Hid
            refine wpList_append_any _ rfl (.tmp 28) (.tmp 33) 52 52 rfl 5 (.int .u8 0) 1 Tryz.underlying52 info5 rfl _ m (bv bs) rfl (HB4.out.gr (gr_alloc u4 _)).own _ 1 [.int .u8 (c.toNat : Int)] rfl (src_u8 u4 [.int .u8 (c.toNat : Int)] 1 rfl (by simp)) (by omega) (by omega) ?_
            intro v' w5 hown hgrow hblk
            obtain ⟨vo5, vc5, rfl⟩ := own_formN hown
            have HB5 := hidM ((HB4.out.gr (gr_alloc u4 _)).app (us := [c]) rfl hown hgrow hblk)
            have hcw := HCW.out
            have hc5 := HB5.out.rd.cells.2.1
            clear hown hgrow hblk HB4 hor hsh
            go_wp2_with fail
            go_roundw
            case rel =>
              refine ⟨k + 1 + 1, m + 1, vo5, vc5, by omega, by omega, rfl, bs ++ [c], HB5.out, ?_⟩
              rw [HQ2.out, Option.map_map]
              congr 1
              funext r
              simp
            case measure => rw [hc5, hcw]; simp [intOf]; omega
theorem fixed65 (p : Nat) (s : ByteArray) (W : World) (a : Nat) (er : Int) (wd : Int) (hwd : 0 ≤ wd ∧ wd ≤ 1000000) (hR : Rd W p s a er) : Calls Tryz.prog 65 #[.pointer (some ⟨p, 0, none⟩), .int .i64 wd] W (TxA W p s er (((QB.takes [120, 34] (s.data.toList.drop a)).bind QF.rdHex).bind fun r => if (r.1.length : Int) ≠ wd then none else some r)) := by
  have HC := hidM (digits64 p s W a er hR)
  have d1 := hR.cells.2.1
  have hap := hR.pos
  have hsl := hR.len
  have HLT := hidM hR.lt
  clear hR
  obtain ⟨o, ho⟩ : ∃ o, (QB.takes [120, 34] (s.data.toList.drop a)).bind QF.rdHex = o := ⟨_, rfl⟩
  rw [ho] at HC ⊢
  clear ho
  cases o with
  | none =>
    go_enter Tryz.func65, Tryz.ntmps65
    go_wp2_with (go_at_call 64; refine HC.out.mono ?_; rintro e u ⟨hk, rfl, hb⟩; have HK := hidM hk; have HB := hidM hb; clear hk hb)
    go_ret2
    exact ⟨HK.out, rfl, HB.out⟩
  | some r =>
    obtain ⟨l, t⟩ := r
    have hln : (⟨l.toArray⟩ : ByteArray).size = l.length := ba_len l
    by_cases hw : (l.length : Int) = wd
    · have e1 : (Option.bind (some (l, t)) fun r => if (r.1.length : Int) ≠ wd then none else some r) = some (l, t) := by
        simp [hw]
      rw [e1]
      have hwn : ((⟨l.toArray⟩ : ByteArray).size : Int) = wd := by rw [hln]; exact hw
      have HC2 : Hid (Calls Tryz.prog 64 #[.pointer (some ⟨p, 0, none⟩)] W fun e W' => Keeps W W' (fun z => z = p) ∧ e = .returned (.tuple #[.string ⟨l.toArray⟩, .bool true]) ∧ t.length ≤ s.size ∧ t = s.data.toList.drop (s.size - t.length) ∧ Rd W' p s (s.size - t.length) er) := HC.out
      clear HC hw hln e1
      unfold TxA
      simp only
      generalize (⟨l.toArray⟩ : ByteArray) = x at *
      go_enter Tryz.func65, Tryz.ntmps65
      go_wp2_with (go_at_call 64; refine HC2.out.mono ?_; rintro e u ⟨hk, rfl, hb⟩; have HK := hidM hk; have HB := hidM hb; clear hk hb)
      go_ret2
      exact ⟨HK.out, rfl, HB.out⟩
    · have e1 : (Option.bind (some (l, t)) fun r => if (r.1.length : Int) ≠ wd then none else some r) = none := by
        simp [hw]
      rw [e1]
      have hwn : ¬ ((⟨l.toArray⟩ : ByteArray).size : Int) = wd := by rw [hln]; exact hw
      have HC2 : Hid (Calls Tryz.prog 64 #[.pointer (some ⟨p, 0, none⟩)] W fun e W' => Keeps W W' (fun z => z = p) ∧ e = .returned (.tuple #[.string ⟨l.toArray⟩, .bool true]) ∧ t.length ≤ s.size ∧ t = s.data.toList.drop (s.size - t.length) ∧ Rd W' p s (s.size - t.length) er) := HC.out
      clear HC hw hln e1
      unfold TxA
      simp only
      generalize (⟨l.toArray⟩ : ByteArray) = x at *
      go_enter Tryz.func65, Tryz.ntmps65
      go_wp2_with (first | (go_at_call 64; refine HC2.out.mono ?_; rintro e u ⟨hk, rfl, hb1, hb2, hb⟩; have HK := hidM hk; have HB := hidM hb; have g1 := hb.cells.2.1; have y1 := hb.frz.1; clear hk hb hb1 hb2) | (go_at_call 30; refine (wrong30 p s _ a er (HB.out.set hap)).mono ?_; rintro e u2 ⟨rfl, hk2, hr2⟩; have HK2 := hidM hk2; have HR2 := hidM hr2; clear hk2 hr2))
      go_ret2
      exact ⟨(HK.out.trans ((Keeps.refl u (fun z => z = p)).setCell (p := ⟨p, 1, none⟩) (fun _ => rfl) _) (fun _ _ h => h)).trans HK2.out (fun _ _ h => h), rfl, HR2.out.isBad⟩
end Go.Proofs.YtfoifmacobldbaaGreatDoor.Kit
namespace Go.Proofs.YtfoifmacobldbaaGreatDoor.Kit
open Go.RowKit Go.Shelf Go.Deep
set_option linter.unusedVariables false
attribute [local go_sem] run_store_func
/-! ### fitsType, kind by kind -/
theorem type_null (f0 : ByteArray) (f1 : Bool) (f2 : Int) (f3 f4 f5 : Int) (ao : Option Addr) (n ca : Nat) (v1 : Int) (v2 : ByteArray) (vo : Option Addr) (m vc : Nat) (w W : World) (sb : Nat) (l : Int) (x : Option Int) (b1 b2 b3 : Bool) (hb1 : (v1 == 0) = b1) (hb2 : v2.toList.isEmpty = b2) (hb3 : ((m : Int) == 0) = b3) (hs : Sc w W sb l) (hx : x = if (f1 && b1 && b2 && b3) = true then some l else none) :
    Calls Tryz.prog 76 #[.pointer (some ⟨sb, 0, none⟩), .agg #[.string f0, .bool f1, .int .i64 f2, .int .i64 f3, .int .i64 f4, .int .i64 f5, .slice ao n ca], .agg #[.bool true, .int .i64 v1, .string v2, .slice vo m vc]] W fun e w' => FitQ W sb x e w' := by
  have HS := hidM hs.self
  clear hs
  cases f1 <;> cases b1 <;> cases b2 <;> cases b3 <;> simp only [Bool.and_true, Bool.and_false, if_true, if_false, Bool.false_eq_true] at hx
  all_goals
    have HX := hidM hx
    clear hx
    go_enter Tryz.func76, Tryz.ntmps76
    go_wp2
    go_region
    all_goals
      go_wp2
      go_ret
      first | exact .no HX.out rfl ((HS.out.alloc _).alloc _).drew | exact .yes HX.out rfl ((HS.out.alloc _).alloc _).drew
theorem type13 (f0 : ByteArray) (f1 : Bool) (f3 f4 f5 : Int) (ao : Option Addr) (n ca : Nat) (v1 : Int) (v2 : ByteArray) (vo : Option Addr) (m vc : Nat) (w W : World) (sb : Nat) (l : Int) (x : Option Int) (b1 b2 b3 : Bool) (hb1 : (v1 == 0) = b1) (hb2 : v2.toList.isEmpty = b2) (hb3 : ((m : Int) == 0) = b3) (hs : Sc w W sb l) (hx : x = if (b1 && b3) = true then some l else none) :
    Calls Tryz.prog 76 #[.pointer (some ⟨sb, 0, none⟩), .agg #[.string f0, .bool f1, .int .i64 13, .int .i64 f3, .int .i64 f4, .int .i64 f5, .slice ao n ca], .agg #[.bool false, .int .i64 v1, .string v2, .slice vo m vc]] W fun e w' => FitQ W sb x e w' := by
  have HS := hidM hs.self
  clear hs
  cases b1 <;> cases b3 <;> simp only [Bool.and_true, Bool.and_false, if_true, if_false, Bool.false_eq_true] at hx
  all_goals
    have HX := hidM hx
    clear hx
    go_enter Tryz.func76, Tryz.ntmps76
    go_wp2
    go_region
    all_goals
      go_wp2
      go_ret
      first | exact .no HX.out rfl ((((HS.out.alloc _).alloc _).alloc _).drew) | exact .yes HX.out rfl ((((HS.out.alloc _).alloc _).alloc _).drew)
theorem type14 (f0 : ByteArray) (f1 : Bool) (f3 f4 f5 : Int) (ao : Option Addr) (n ca : Nat) (v1 : Int) (v2 : ByteArray) (vo : Option Addr) (m vc : Nat) (w W : World) (sb : Nat) (l : Int) (x : Option Int) (b1 b2 b3 : Bool) (hb1 : (v1 == 0) = b1) (hb2 : v2.toList.isEmpty = b2) (hb3 : ((m : Int) == 0) = b3) (hs : Sc w W sb l) (b4 : Bool) (hb4 : ((v2.size : Int) == f3) = b4) (hx : x = if (b1 && b3 && b4) = true then some l else none) :
    Calls Tryz.prog 76 #[.pointer (some ⟨sb, 0, none⟩), .agg #[.string f0, .bool f1, .int .i64 14, .int .i64 f3, .int .i64 f4, .int .i64 f5, .slice ao n ca], .agg #[.bool false, .int .i64 v1, .string v2, .slice vo m vc]] W fun e w' => FitQ W sb x e w' := by
  have HS := hidM hs.self
  clear hs
  cases b1 <;> cases b3 <;> cases b4 <;> simp only [Bool.and_true, Bool.and_false, if_true, if_false, Bool.false_eq_true] at hx
  all_goals
    have HX := hidM hx
    clear hx
    go_enter Tryz.func76, Tryz.ntmps76
    go_wp2
    go_region
    all_goals
      go_wp2
      go_ret
      first | exact .no HX.out rfl ((((HS.out.alloc _).alloc _).alloc _).drew) | exact .yes HX.out rfl ((((HS.out.alloc _).alloc _).alloc _).drew)
theorem type12 (f0 : ByteArray) (f1 : Bool) (f3 f4 f5 : Int) (ao : Option Addr) (n ca : Nat) (v1 : Int) (v2 : ByteArray) (vo : Option Addr) (m vc : Nat) (w W : World) (sb : Nat) (l : Int) (x : Option Int) (b1 b2 b3 : Bool) (hb1 : (v1 == 0) = b1) (hb2 : v2.toList.isEmpty = b2) (hb3 : ((m : Int) == 0) = b3) (hs : Sc w W sb l) (vb : Bool) (h89 : ∀ W', Gr W W' → Calls Tryz.prog 109 #[.string v2] W' fun e w' => e = .returned (.bool vb) ∧ Gr W' w') (hx : x = if (b1 && b3 && vb) = true then some l else none) :
    Calls Tryz.prog 76 #[.pointer (some ⟨sb, 0, none⟩), .agg #[.string f0, .bool f1, .int .i64 12, .int .i64 f3, .int .i64 f4, .int .i64 f5, .slice ao n ca], .agg #[.bool false, .int .i64 v1, .string v2, .slice vo m vc]] W fun e w' => FitQ W sb x e w' := by
  have HS := hidM hs.self
  have H89 := hidM h89
  clear hs h89
  have HG : Hid (∀ a b c, Gr W (((W.alloc a).alloc b).alloc c).drew) := fun a b c => ((((Keeps.refl W _).alloc a).alloc b).alloc c).drew
  cases b1 <;> cases b3 <;> cases vb <;> simp only [Bool.and_true, Bool.and_false, if_true, if_false, Bool.false_eq_true] at hx
  all_goals
    have HX := hidM hx
    clear hx
    go_enter Tryz.func76, Tryz.ntmps76
    go_wp2
    go_region
    all_goals
      go_wp2_with (go_at_call 109; refine (H89.out _ (HG.out _ _ _)).mono ?_; rintro e v1' ⟨rfl, hg⟩; replace hg := hidM hg)
      go_ret
      first | exact .no HX.out rfl ((((HS.out.alloc _).alloc _).alloc _).drew) | exact .yes HX.out rfl (((((HS.out.alloc _).alloc _).alloc _).drew).gr hg.out) | exact .no HX.out rfl (((((HS.out.alloc _).alloc _).alloc _).drew).gr hg.out)
theorem type_num (f0 : ByteArray) (f1 : Bool) (f2 : Int) (f3 f4 f5 : Int) (ao : Option Addr) (n ca : Nat) (v1 : Int) (v2 : ByteArray) (vo : Option Addr) (m vc : Nat) (w W : World) (sb : Nat) (l : Int) (x : Option Int) (b1 b2 b3 : Bool) (hb1 : (v1 == 0) = b1) (hb2 : v2.toList.isEmpty = b2) (hb3 : ((m : Int) == 0) = b3) (hs : Sc w W sb l) (hk : 1 ≤ f2 ∧ f2 ≤ 11) (nb : Bool) (hnb : numB f2 v1 = nb) (hx : x = if (b2 && b3 && nb) = true then some l else none) :
    Calls Tryz.prog 76 #[.pointer (some ⟨sb, 0, none⟩), .agg #[.string f0, .bool f1, .int .i64 f2, .int .i64 f3, .int .i64 f4, .int .i64 f5, .slice ao n ca], .agg #[.bool false, .int .i64 v1, .string v2, .slice vo m vc]] W fun e w' => FitQ W sb x e w' := by
  have HS := hidM hs.self
  clear hs
  have H93 : Hid (∀ W', Calls Tryz.prog 113 #[.int .i64 f2, .int .i64 v1] W' fun e w' => e = .returned (.bool nb) ∧ W' = w') := fun W' => by rw [← hnb]; exact fitsNumber_any f2 v1 (by omega) W'
  have e12 : (f2 == 12) = false := by simp; omega
  have e13 : (f2 == 13) = false := by simp; omega
  have e14 : (f2 == 14) = false := by simp; omega
  have e15 : (f2 == 15) = false := by simp; omega
  have e16 : (f2 == 16) = false := by simp; omega
  have e17 : (f2 == 17) = false := by simp; omega
  have e18 : (f2 == 18) = false := by simp; omega
  have e19 : (f2 == 19) = false := by simp; omega
  have e20 : (f2 == 20) = false := by simp; omega
  clear hk hnb
  cases b2 <;> cases b3 <;> cases nb <;> simp only [Bool.and_true, Bool.and_false, if_true, if_false, Bool.false_eq_true] at hx
  all_goals
    have HX := hidM hx
    clear hx
    go_enter Tryz.func76, Tryz.ntmps76
    go_wp2
    go_region
    all_goals
      go_wp2_with (go_at_call 113; refine (H93.out _).mono ?_; rintro e v1' ⟨rfl, rfl⟩)
      go_ret
      first | exact .no HX.out rfl ((((HS.out.alloc _).alloc _).alloc _).drew) | exact .yes HX.out rfl ((((HS.out.alloc _).alloc _).alloc _).drew)
theorem type15_no (f0 : ByteArray) (f1 : Bool) (f3 f4 f5 : Int) (ao : Option Addr) (n ca : Nat) (v1 : Int) (v2 : ByteArray) (vo : Option Addr) (m vc : Nat) (w W : World) (sb : Nat) (l : Int) (x : Option Int) (b1 b2 b3 : Bool) (hb1 : (v1 == 0) = b1) (hb2 : v2.toList.isEmpty = b2) (hb3 : ((m : Int) == 0) = b3) (hs : Sc w W sb l) (hc : (b1 && b2) = false) (hx : x = none) :
    Calls Tryz.prog 76 #[.pointer (some ⟨sb, 0, none⟩), .agg #[.string f0, .bool f1, .int .i64 15, .int .i64 f3, .int .i64 f4, .int .i64 f5, .slice ao n ca], .agg #[.bool false, .int .i64 v1, .string v2, .slice vo m vc]] W fun e w' => FitQ W sb x e w' := by
  have HS := hidM hs.self
  have HX := hidM hx
  clear hs hx
  cases b1 <;> cases b2 <;> simp only [Bool.and_true, Bool.and_false, Bool.true_eq_false, Bool.and_self] at hc <;> clear hc
  all_goals
    go_enter Tryz.func76, Tryz.ntmps76
    go_wp2
    go_region
    all_goals
      go_wp2
      go_region
      all_goals
        go_wp2
        go_ret
        exact .no HX.out rfl (((((HS.out.alloc _).alloc _).alloc _).drew).drew)
theorem type16_no (f0 : ByteArray) (f1 : Bool) (f3 f4 f5 : Int) (ao : Option Addr) (n ca : Nat) (v1 : Int) (v2 : ByteArray) (vo : Option Addr) (m vc : Nat) (w W : World) (sb : Nat) (l : Int) (x : Option Int) (b1 b2 b3 : Bool) (hb1 : (v1 == 0) = b1) (hb2 : v2.toList.isEmpty = b2) (hb3 : ((m : Int) == 0) = b3) (hs : Sc w W sb l) (b4 : Bool) (hb4 : ((m : Int) == f3) = b4) (hc : (b1 && b2 && b4) = false) (hx : x = none) :
    Calls Tryz.prog 76 #[.pointer (some ⟨sb, 0, none⟩), .agg #[.string f0, .bool f1, .int .i64 16, .int .i64 f3, .int .i64 f4, .int .i64 f5, .slice ao n ca], .agg #[.bool false, .int .i64 v1, .string v2, .slice vo m vc]] W fun e w' => FitQ W sb x e w' := by
  have HS := hidM hs.self
  have HX := hidM hx
  clear hs hx
  cases b1 <;> cases b2 <;> cases b4 <;> simp only [Bool.and_true, Bool.and_false, Bool.true_eq_false, Bool.and_self] at hc <;> clear hc
  all_goals
    go_enter Tryz.func76, Tryz.ntmps76
    go_wp2
    go_region
    all_goals
      go_wp2
      go_region
      all_goals
        go_wp2
        go_ret
        exact .no HX.out rfl (((((HS.out.alloc _).alloc _).alloc _).drew).drew)
end Go.Proofs.YtfoifmacobldbaaGreatDoor.Kit
