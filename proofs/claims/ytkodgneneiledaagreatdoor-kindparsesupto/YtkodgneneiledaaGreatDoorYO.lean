import Derived.Test.YtkodgneneiledaaGreatDoorMB
import Derived.Deep.RegionHeld3
import Derived.Deep.Slices
import Derived.Test.YtkodgneneiledaaGreatDoorKitTwo
import Derived.Test.YtkodgneneiledaaGreatDoorLK
set_option maxRecDepth 100000
set_option maxHeartbeats 4000000
namespace Go.Proofs.YtkodgneneiledaaGreatDoor.Kit
open Go.RowKit Go.Shelf Go.Deep
set_option linter.unusedVariables false
attribute [local go_sem] run_store_func
theorem eqField_walk (s1 s2 : ByteArray) (n1 n2 : Bool) (k1 d1 i1 x1 k2 d2 i2 x2 : Int) (ao bo : Option Addr) (na ca nb cb : Nat) (r : Bool) (w : World) (h27 : Ans 31 #[.slice ao na ca, .slice bo nb cb] r w) :
    Ans 11 #[.agg #[.string s1, .bool n1, .int .i64 k1, .int .i64 d1, .int .i64 i1, .int .i64 x1, .slice ao na ca], .agg #[.string s2, .bool n2, .int .i64 k2, .int .i64 d2, .int .i64 i2, .int .i64 x2, .slice bo nb cb]] (sEq s1 s2 && (n1 == n2) && ((k1 == k2 && d1 == d2 && i1 == i2 && x1 == x2) && r)) w := by
  intro W g
  have H := hidM (h27.gr g)
  clear h27 g
  unfold sEq
  cases hs : (s1.toList == s2.toList) with
  | false =>
    go_enter Tryz.func11, Tryz.ntmps11
    go_wp2
    go_region
    all_goals go_wp2
    all_goals go_ret
    all_goals exact ⟨by simp, ((((gr_alloc _ _).alloc _).alloc _).alloc _).drew⟩
  | true =>
    go_enter Tryz.func11, Tryz.ntmps11
    go_wp2
    go_region
    all_goals go_wp2_with (go_at_call 31; refine Hid.out ?_)
    all_goals first
      | (go_ret
         refine ⟨congrArg (fun b => Ending.returned (.bool b)) ?_, ((((gr_alloc _ _).alloc _).alloc _).alloc _).drew⟩
         simp [*])
      | (unfold Hid
         refine Calls.mono (H.out _ ((((gr_alloc _ _).alloc _).alloc _).alloc _).drew) ?_
         rintro e W1 ⟨rfl, hg1⟩
         go_wp2_with fail
         go_ret
         exact ⟨by simp [*], ((((gr_alloc _ _).alloc _).alloc _).alloc _).drew.trans hg1 (fun _ _ h => h)⟩)
structure TwoF (w W : World) (x o y u : Nat) (f q : FT) (fo eo : Option Addr) (fc ec : Nat) : Prop where
  gr : Gr w W
  a : CellsAt W x o f fo fc
  b : CellsAt W y u q eo ec
theorem twoF {w W : World} {x o y u : Nat} {f q : FT} {fo eo : Option Addr} {fc ec : Nat} (t : TwoF w W x o y u f q fo eo fc ec) : Hid (TwoF w W x o y u f q fo eo fc ec) ∧ W.cell? ⟨x, o, none⟩ = some (.string f.name) ∧ W.cell? ⟨x, o + 1, none⟩ = some (.bool f.nul) ∧ W.cell? ⟨x, o + 2, none⟩ = some (.int .i64 f.kind) ∧ W.cell? ⟨x, o + 3, none⟩ = some (.int .i64 f.width) ∧ W.cell? ⟨x, o + 4, none⟩ = some (.int .i64 f.id) ∧ W.cell? ⟨x, o + 5, none⟩ = some (.int .i64 f.index) ∧ W.cell? ⟨x, o + 6, none⟩ = some (.slice fo f.kids.length fc) ∧ W.cell? ⟨y, u, none⟩ = some (.string q.name) ∧ W.cell? ⟨y, u + 1, none⟩ = some (.bool q.nul) ∧ W.cell? ⟨y, u + 2, none⟩ = some (.int .i64 q.kind) ∧ W.cell? ⟨y, u + 3, none⟩ = some (.int .i64 q.width) ∧ W.cell? ⟨y, u + 4, none⟩ = some (.int .i64 q.id) ∧ W.cell? ⟨y, u + 5, none⟩ = some (.int .i64 q.index) ∧ W.cell? ⟨y, u + 6, none⟩ = some (.slice eo q.kids.length ec) := ⟨t, t.a.c0, t.a.c1, t.a.c2, t.a.c3, t.a.c4, t.a.c5, t.a.c6, t.b.c0, t.b.c1, t.b.c2, t.b.c3, t.b.c4, t.b.c5, t.b.c6⟩
theorem TwoF.gr' {w W : World} {x o y u : Nat} {f q : FT} {fo eo : Option Addr} {fc ec : Nat} (t : TwoF w W x o y u f q fo eo fc ec) {W' : World} (k : Gr W W') : TwoF w W' x o y u f q fo eo fc ec := ⟨t.gr.trans k (fun _ _ h => h), t.a.kept (k.block _ (block_lt_of_cell t.a.c0) id), t.b.kept (k.block _ (block_lt_of_cell t.b.c0) id)⟩
theorem twoF_kept {w W : World} {x o y u : Nat} {f q : FT} {fo eo : Option Addr} {fc ec : Nat} {W' : World} (t : Hid (TwoF w W x o y u f q fo eo fc ec) ∧ W.cell? ⟨x, o, none⟩ = some (.string f.name) ∧ W.cell? ⟨x, o + 1, none⟩ = some (.bool f.nul) ∧ W.cell? ⟨x, o + 2, none⟩ = some (.int .i64 f.kind) ∧ W.cell? ⟨x, o + 3, none⟩ = some (.int .i64 f.width) ∧ W.cell? ⟨x, o + 4, none⟩ = some (.int .i64 f.id) ∧ W.cell? ⟨x, o + 5, none⟩ = some (.int .i64 f.index) ∧ W.cell? ⟨x, o + 6, none⟩ = some (.slice fo f.kids.length fc) ∧ W.cell? ⟨y, u, none⟩ = some (.string q.name) ∧ W.cell? ⟨y, u + 1, none⟩ = some (.bool q.nul) ∧ W.cell? ⟨y, u + 2, none⟩ = some (.int .i64 q.kind) ∧ W.cell? ⟨y, u + 3, none⟩ = some (.int .i64 q.width) ∧ W.cell? ⟨y, u + 4, none⟩ = some (.int .i64 q.id) ∧ W.cell? ⟨y, u + 5, none⟩ = some (.int .i64 q.index) ∧ W.cell? ⟨y, u + 6, none⟩ = some (.slice eo q.kids.length ec)) (k : Hid (Gr W W')) : Hid (TwoF w W' x o y u f q fo eo fc ec) ∧ W'.cell? ⟨x, o, none⟩ = some (.string f.name) ∧ W'.cell? ⟨x, o + 1, none⟩ = some (.bool f.nul) ∧ W'.cell? ⟨x, o + 2, none⟩ = some (.int .i64 f.kind) ∧ W'.cell? ⟨x, o + 3, none⟩ = some (.int .i64 f.width) ∧ W'.cell? ⟨x, o + 4, none⟩ = some (.int .i64 f.id) ∧ W'.cell? ⟨x, o + 5, none⟩ = some (.int .i64 f.index) ∧ W'.cell? ⟨x, o + 6, none⟩ = some (.slice fo f.kids.length fc) ∧ W'.cell? ⟨y, u, none⟩ = some (.string q.name) ∧ W'.cell? ⟨y, u + 1, none⟩ = some (.bool q.nul) ∧ W'.cell? ⟨y, u + 2, none⟩ = some (.int .i64 q.kind) ∧ W'.cell? ⟨y, u + 3, none⟩ = some (.int .i64 q.width) ∧ W'.cell? ⟨y, u + 4, none⟩ = some (.int .i64 q.id) ∧ W'.cell? ⟨y, u + 5, none⟩ = some (.int .i64 q.index) ∧ W'.cell? ⟨y, u + 6, none⟩ = some (.slice eo q.kids.length ec) := twoF (t.1.out.gr' k.out)
theorem twoF_g {w W : World} {x o y u : Nat} {f q : FT} {fo eo : Option Addr} {fc ec : Nat} (t : Hid (TwoF w W x o y u f q fo eo fc ec) ∧ W.cell? ⟨x, o, none⟩ = some (.string f.name) ∧ W.cell? ⟨x, o + 1, none⟩ = some (.bool f.nul) ∧ W.cell? ⟨x, o + 2, none⟩ = some (.int .i64 f.kind) ∧ W.cell? ⟨x, o + 3, none⟩ = some (.int .i64 f.width) ∧ W.cell? ⟨x, o + 4, none⟩ = some (.int .i64 f.id) ∧ W.cell? ⟨x, o + 5, none⟩ = some (.int .i64 f.index) ∧ W.cell? ⟨x, o + 6, none⟩ = some (.slice fo f.kids.length fc) ∧ W.cell? ⟨y, u, none⟩ = some (.string q.name) ∧ W.cell? ⟨y, u + 1, none⟩ = some (.bool q.nul) ∧ W.cell? ⟨y, u + 2, none⟩ = some (.int .i64 q.kind) ∧ W.cell? ⟨y, u + 3, none⟩ = some (.int .i64 q.width) ∧ W.cell? ⟨y, u + 4, none⟩ = some (.int .i64 q.id) ∧ W.cell? ⟨y, u + 5, none⟩ = some (.int .i64 q.index) ∧ W.cell? ⟨y, u + 6, none⟩ = some (.slice eo q.kids.length ec)) : Gr w W := t.1.out.gr
theorem eqFields_step (S : Nat → Prop) (d : Nat) (W : World) (ao bo : Option Addr) (ca cb : Nat) (a b : List FT) (ha : RowAt S W (d + 1) ao a) (hb : RowAt S W (d + 1) bo b) (hca : a.length ≤ ca) (hcb : b.length ≤ cb) (hS : ∀ b, S b → b < W.heap.size)
    (h39 : ∀ (f q : FT) (fo eo : Option Addr) (fc ec : Nat), RowAt S W d fo f.kids → RowAt S W d eo q.kids → f.kids.length ≤ fc → q.kids.length ≤ ec → Ans 11 #[.agg #[.string f.name, .bool f.nul, .int .i64 f.kind, .int .i64 f.width, .int .i64 f.id, .int .i64 f.index, .slice fo f.kids.length fc], .agg #[.string q.name, .bool q.nul, .int .i64 q.kind, .int .i64 q.width, .int .i64 q.id, .int .i64 q.index, .slice eo q.kids.length ec]] (sameFd d f q) W) :
    Calls Tryz.prog 31 #[.slice ao a.length ca, .slice bo b.length cb] W fun e w' => e = .returned (.bool (sameLs (d + 1) a b)) ∧ Gr W w' := by
  have hla : a.length ≤ 1000000000000 := ha.len
  have hlb : b.length ≤ 1000000000000 := hb.len
  have HA := hidM ha
  have HB := hidM hb
  have HS := hidM hS
  have H39 := hidM h39
  obtain ⟨R, hR⟩ : ∃ R, R = sameLs (d + 1) a b := ⟨_, rfl⟩
  rw [← hR]
  rw [sameLs_succ] at hR
  have HR := hidM hR
  obtain ⟨L, hL⟩ : ∃ L, L = a.length := ⟨_, rfl⟩
  obtain ⟨M, hM⟩ : ∃ M, M = b.length := ⟨_, rfl⟩
  rw [← hL] at hla hca ⊢
  rw [← hM] at hlb hcb ⊢
  have HL := hidM hL
  have HM := hidM hM
  clear ha hb hS h39 hR hL hM
  go_enter Tryz.func31, Tryz.ntmps31
  by_cases hLM : L = M
  · subst hLM
    go_wp2
    go_loopw [13] (fun p wr => ∃ k : Nat, k ≤ L ∧ p = .int .i64 (k : Int) ∧ Hid (Gr W wr ∧ ∀ i (h : i < a.length) (h' : i < b.length), i < k → sameFd d a[i] b[i] = true)) (fun p _ => L - (intOf p).toNat)
    case atStart => exact ⟨0, by omega, rfl, Keeps.refl _ _, fun i _ _ h => by omega⟩
    case round =>
      obtain ⟨k, hk, rfl, HK⟩ := hrel
      by_cases hlt : k < L
      · have hka : k < a.length := by have := HL.out; omega
        have hkb : k < b.length := by have := HM.out; omega
        obtain ⟨x, o, rfl, hx, hcs⟩ := HA.out.2 (fun e => by subst e; simp at hka)
        obtain ⟨y, u, rfl, hy, hds⟩ := HB.out.2 (fun e => by subst e; simp at hkb)
        obtain ⟨fo, fc, hc, hle, hr⟩ := hcs k hka
        obtain ⟨eo, ec, hd, hle', hr'⟩ := hds k hkb
        have hcall := H39.out a[k] b[k] fo eo fc ec hr hr' hle hle'
        have HP := hidM HK.out.2
        obtain ⟨f, hf⟩ : ∃ f, f = a[k]'hka := ⟨_, rfl⟩
        obtain ⟨q, hq⟩ : ∃ q, q = b[k]'hkb := ⟨_, rfl⟩
        have g1 := hc.kept (HK.out.1.block x (HS.out x hx) id)
        have g2 := hd.kept (HK.out.1.block y (HS.out y hy) id)
        rw [← hf] at g1 hcall
        rw [← hq] at g2 hcall
        have HT : Hid (TwoF W wr x (o + k * 7) y (u + k * 7) f q fo eo fc ec) := ⟨HK.out.1, g1, g2⟩
        have H2 := hidM hcall
        have HF := hidM hf
        have HQ := hidM hq
        have hltI : (k : Int) < (L : Int) := by omega
        clear hcs hds hc hd hr hr' hcall hf hq HK g1 g2 hle hle'
        obtain ⟨z, hz⟩ : ∃ z, z = sameFd d f q := ⟨_, rfl⟩
        rw [← hz] at H2
        unfold Ans at H2
        have HZ := hidM hz
        clear hz
        go_wp2
        have HIN : Hid (Hid (TwoF W wr.drew x (o + k * 7) y (u + k * 7) f q fo eo fc ec) ∧ wr.drew.cell? ⟨x, o + k * 7, none⟩ = some (.string f.name) ∧ wr.drew.cell? ⟨x, o + k * 7 + 1, none⟩ = some (.bool f.nul) ∧ wr.drew.cell? ⟨x, o + k * 7 + 2, none⟩ = some (.int .i64 f.kind) ∧ wr.drew.cell? ⟨x, o + k * 7 + 3, none⟩ = some (.int .i64 f.width) ∧ wr.drew.cell? ⟨x, o + k * 7 + 4, none⟩ = some (.int .i64 f.id) ∧ wr.drew.cell? ⟨x, o + k * 7 + 5, none⟩ = some (.int .i64 f.index) ∧ wr.drew.cell? ⟨x, o + k * 7 + 6, none⟩ = some (.slice fo f.kids.length fc) ∧ wr.drew.cell? ⟨y, u + k * 7, none⟩ = some (.string q.name) ∧ wr.drew.cell? ⟨y, u + k * 7 + 1, none⟩ = some (.bool q.nul) ∧ wr.drew.cell? ⟨y, u + k * 7 + 2, none⟩ = some (.int .i64 q.kind) ∧ wr.drew.cell? ⟨y, u + k * 7 + 3, none⟩ = some (.int .i64 q.width) ∧ wr.drew.cell? ⟨y, u + k * 7 + 4, none⟩ = some (.int .i64 q.id) ∧ wr.drew.cell? ⟨y, u + k * 7 + 5, none⟩ = some (.int .i64 q.index) ∧ wr.drew.cell? ⟨y, u + k * 7 + 6, none⟩ = some (.slice eo q.kids.length ec)) := twoF (HT.out.gr' gr_drew)
        go_region_held3 (fun w' => Hid (TwoF W w' x (o + k * 7) y (u + k * 7) f q fo eo fc ec) ∧ w'.cell? ⟨x, o + k * 7, none⟩ = some (.string f.name) ∧ w'.cell? ⟨x, o + k * 7 + 1, none⟩ = some (.bool f.nul) ∧ w'.cell? ⟨x, o + k * 7 + 2, none⟩ = some (.int .i64 f.kind) ∧ w'.cell? ⟨x, o + k * 7 + 3, none⟩ = some (.int .i64 f.width) ∧ w'.cell? ⟨x, o + k * 7 + 4, none⟩ = some (.int .i64 f.id) ∧ w'.cell? ⟨x, o + k * 7 + 5, none⟩ = some (.int .i64 f.index) ∧ w'.cell? ⟨x, o + k * 7 + 6, none⟩ = some (.slice fo f.kids.length fc) ∧ w'.cell? ⟨y, u + k * 7, none⟩ = some (.string q.name) ∧ w'.cell? ⟨y, u + k * 7 + 1, none⟩ = some (.bool q.nul) ∧ w'.cell? ⟨y, u + k * 7 + 2, none⟩ = some (.int .i64 q.kind) ∧ w'.cell? ⟨y, u + k * 7 + 3, none⟩ = some (.int .i64 q.width) ∧ w'.cell? ⟨y, u + k * 7 + 4, none⟩ = some (.int .i64 q.id) ∧ w'.cell? ⟨y, u + k * 7 + 5, none⟩ = some (.int .i64 q.index) ∧ w'.cell? ⟨y, u + k * 7 + 6, none⟩ = some (.slice eo q.kids.length ec)) (first | with_reducible exact HIN.out | with_reducible exact twoF_kept (by assumption) hk1)
          (first | (go_at_call 11; refine Calls.mono (H2.out _ (twoF_g (by assumption))) ?_; rintro e' v1 ⟨rfl, hk1⟩; replace hk1 := hidM hk1))
        rename_i hHeld
        have HE := hidM hHeld.1.out.gr
        clear hHeld hk1 HIN HT H2
        cases z with
        | true =>
          go_wp2
          go_roundw
          case rel =>
            refine ⟨k + 1, by omega, by simp, HE.out, fun i hi hi' h => ?_⟩
            by_cases e : i = k
            · subst e; rw [← HF.out, ← HQ.out]; exact HZ.out.symm
            exact HP.out i hi hi' (by omega)
          case measure => simp [intOf]; omega
        | false =>
          have HRf : Hid (R = false) := by show R = false; rw [HR.out]; exact sameAll_false k hka hkb (by rw [← HF.out, ← HQ.out]; exact HZ.out.symm)
          go_wp2
          go_ret
          exact ⟨by rw [HRf.out]; rfl, HE.out⟩
      have HRt : Hid (R = true) := by
        show R = true
        rw [HR.out]
        refine sameAll_true (by have := HL.out; have := HM.out; omega) fun i hi hi' => HK.out.2 i hi hi' (by have := HL.out; omega)
      have hkL : k = L := by omega
      subst hkL
      have HG := hidM HK.out.1
      clear HK
      go_wp2
      go_ret
      exact ⟨by rw [HRt.out]; rfl, HG.out⟩
  have HRf : Hid (R = false) := by show R = false; rw [HR.out]; exact sameAll_len (by have := HL.out; have := HM.out; omega)
  have hb := beqZ (a := (L : Int)) (b := (M : Int)) (by omega)
  go_wp2
  go_ret
  exact ⟨by rw [HRf.out]; rfl, Keeps.refl _ _⟩
theorem eqFields_nil (ao bo : Option Addr) (ca cb : Nat) (w : World) :
    Calls Tryz.prog 31 #[.slice ao 0 ca, .slice bo 0 cb] w fun e w' => e = .returned (.bool true) ∧ w' = w := by
  go_enter Tryz.func31, Tryz.ntmps31
  go_wp2
  go_loopw [13] (fun i wr => i = .int .i64 0 ∧ wr = w) (fun _ _ => 0)
  case atStart => exact ⟨rfl, rfl⟩
  case round =>
    obtain ⟨rfl, rfl⟩ := hrel
    go_wp2
    go_ret
    exact ⟨rfl, rfl⟩
theorem eqFields_any (S : Nat → Prop) : ∀ (d : Nat) (W : World) (ao bo : Option Addr) (ca cb : Nat) (a b : List FT), RowAt S W d ao a → RowAt S W d bo b → a.length ≤ ca → b.length ≤ cb → (∀ b, S b → b < W.heap.size) →
    Ans 31 #[.slice ao a.length ca, .slice bo b.length cb] (sameLs d a b) W
  | 0, W, ao, bo, ca, cb, a, b, ha, hb, _, _, _ => by
    have ha' : a = [] := ha
    have hb' : b = [] := hb
    subst ha' hb'
    intro W' g
    refine Calls.mono (eqFields_nil ao bo ca cb W') ?_
    rintro e w' ⟨rfl, rfl⟩
    exact ⟨by simp [sameLs, sameAll], Keeps.refl _ _⟩
  | d + 1, W, ao, bo, ca, cb, a, b, ha, hb, hca, hcb, hS => by
    intro W' g
    have hk : KpOf S W W' := fun b hb => g.block b (hS b hb) id
    have hS' : ∀ b, S b → b < W'.heap.size := fun b hb => Nat.lt_of_lt_of_le (hS b hb) g.size
    refine eqFields_step S d W' ao bo ca cb a b (ha.kept hk) (hb.kept hk) hca hcb hS' fun f q fo eo fc ec h1 h2 h3 h4 => ?_
    have := eqField_walk f.name q.name f.nul q.nul f.kind f.width f.id f.index q.kind q.width q.id q.index fo eo f.kids.length fc q.kids.length ec _ W' (eqFields_any S d W' fo eo fc ec f.kids q.kids h1 h2 h3 h4 hS')
    rw [sameFd_eq]
    exact this
theorem eqField_any (S : Nat → Prop) (d : Nat) (W : World) (f q : FT) (fo eo : Option Addr) (fc ec : Nat) (h1 : RowAt S W d fo f.kids) (h2 : RowAt S W d eo q.kids) (h3 : f.kids.length ≤ fc) (h4 : q.kids.length ≤ ec) (hS : ∀ b, S b → b < W.heap.size) : Ans 11 #[.agg #[.string f.name, .bool f.nul, .int .i64 f.kind, .int .i64 f.width, .int .i64 f.id, .int .i64 f.index, .slice fo f.kids.length fc], .agg #[.string q.name, .bool q.nul, .int .i64 q.kind, .int .i64 q.width, .int .i64 q.id, .int .i64 q.index, .slice eo q.kids.length ec]] (sameFd d f q) W := by
  have := eqField_walk f.name q.name f.nul q.nul f.kind f.width f.id f.index q.kind q.width q.id q.index fo eo f.kids.length fc q.kids.length ec _ W (eqFields_any S d W fo eo fc ec f.kids q.kids h1 h2 h3 h4 hS)
  rw [sameFd_eq]
  exact this
theorem sameAll_refl {α : Type} {p : α → α → Bool} (h : ∀ x, p x x = true) : ∀ l : List α, sameAll p l l = true
  | [] => rfl
  | x :: l => by simp [sameAll, h x, sameAll_refl h l]
theorem sameLs_refl : ∀ (d : Nat) (l : List FT), sameLs d l l = true
  | 0, l => by rw [sameLs]; exact sameAll_refl (fun _ => rfl) l
  | d + 1, l => by
    rw [sameLs_succ]
    refine sameAll_refl (fun f => ?_) l
    rw [sameFd_eq, sameLs_refl d f.kids]
    simp [sEq, tyEq]
theorem sameFd_refl (d : Nat) (f : FT) : sameFd d f f = true := by
  rw [sameFd_eq, sameLs_refl]
  simp [sEq, tyEq]
theorem nP_take {d : Nat} {l : List FT} {k : Nat} (h : k < l.length) : nP d (l.take (k + 1)) = nP d (l.take k) + nP d [l[k]] := by
  rw [List.take_succ_eq_append_getElem h, nP_app]
theorem nP_le {d : Nat} {l : List FT} (k : Nat) : nP d (l.take k) ≤ nP d l := by
  have := nP_app d (l.take k) (l.drop k)
  rw [List.take_append_drop] at this
  omega
theorem nP_mem {d : Nat} {l : List FT} {k : Nat} (h : k < l.length) : nP d [l[k]] ≤ nP d l := by
  have h1 := nP_take (d := d) h
  have h2 := nP_le (d := d) (l := l) (k + 1)
  omega
theorem count58_step (d : Nat) (S : Nat → Prop) (f : FT) (ko : Option Addr) (kc : Nat) (w : World) (hr : RowAt S w d ko f.kids) (hS : ∀ b, S b → b < w.heap.size) (hkc : f.kids.length ≤ kc) (hb : nP d f.kids ≤ 1000000)
    (ih : ∀ d1, d = d1 + 1 → ∀ (g : FT) (go : Option Addr) (gc : Nat) (W : World), RowAt S W d1 go g.kids → (∀ b, S b → b < W.heap.size) → g.kids.length ≤ gc → nP d1 g.kids ≤ 1000000 → Calls Tryz.prog 58 #[.agg #[.string g.name, .bool g.nul, .int .i64 g.kind, .int .i64 g.width, .int .i64 g.id, .int .i64 g.index, .slice go g.kids.length gc]] W (fun e w' => Gr W w' ∧ e = .returned (.int .i64 ((1 + nP d1 g.kids : Nat) : Int)))) :
    Calls Tryz.prog 58 #[.agg #[.string f.name, .bool f.nul, .int .i64 f.kind, .int .i64 f.width, .int .i64 f.id, .int .i64 f.index, .slice ko f.kids.length kc]] w (fun e w' => Gr w w' ∧ e = .returned (.int .i64 ((1 + nP d f.kids : Nat) : Int))) := by
  have hlb : f.kids.length ≤ big := by
    cases d with
    | zero => rw [show f.kids = [] from hr]; simp [big]
    | succ d => exact hr.1
  have hlb2 : f.kids.length ≤ 1000000000000 := hlb
  have HR := hidP hr
  have HS := hidP hS
  have HI := hidP ih
  have Hb := hidP hb
  obtain ⟨L, hL⟩ : ∃ L, L = f.kids.length := ⟨_, rfl⟩
  rw [← hL] at hkc hlb2 ⊢
  have HL := hidP hL
  have HG0 : Hid (Gr w (w.alloc (.cells #[.string f.name, .bool f.nul, .int .i64 f.kind, .int .i64 f.width, .int .i64 f.id, .int .i64 f.index, .slice ko L kc] 37))) := gr_alloc w _
  obtain ⟨l, hl⟩ : ∃ l, l = f.kids := ⟨_, rfl⟩
  rw [← hl] at HR HL Hb ⊢
  clear hr hS ih hb hL hlb hl
  go_enter Tryz.func58, Tryz.ntmps58
  go_wp2_with fail
  go_loopw [3, 10] (fun n i wr => ∃ k N : Nat, k ≤ L ∧ N ≤ 1000001 ∧ n = .int .i64 (N : Int) ∧ i = .int .i64 (k : Int) ∧ Hid (Gr w wr ∧ N = 1 + nP d (l.take k))) (fun _ i _ => L - (intOf i).toNat)
  case atStart => exact ⟨0, 1, by omega, by omega, rfl, rfl, HG0.out, by rw [List.take_zero, nP_nil]⟩
  case round =>
    obtain ⟨k, N, hk, hN, rfl, rfl, HK⟩ := hrel
    by_cases hlt : k < L
    · have hka : k < l.length := by have := HL.out; omega
      obtain ⟨d1, rfl⟩ : ∃ d1, d = d1 + 1 := by
        cases d with
        | zero => exact absurd (show l = [] from HR.out) (by intro e; subst e; simp at hka)
        | succ d => exact ⟨d, rfl⟩
      obtain ⟨x, o, rfl, hx, hcs⟩ := HR.out.2 (fun e => by subst e; simp at hka)
      obtain ⟨fo, fc, hc, hle, hr⟩ := hcs k hka
      have hcW := hc.kept (HK.out.1.block x (HS.out x hx) id)
      obtain ⟨t, ht⟩ : ∃ t, t = l[k]'hka := ⟨_, rfl⟩
      have hn1 := nP_take (d := d1 + 1) hka
      have hn2 := nP_le (d := d1 + 1) (l := l) (k + 1)
      rw [← ht] at hcW hle hr hn1
      rw [nP_one] at hn1
      have HN := hidP hn1
      have hnb : nP d1 t.kids ≤ 1000000 := by have := Hb.out; omega
      have gA := HK.out.1.trans (gr_alloc wr (.cells #[.string t.name, .bool t.nul, .int .i64 t.kind, .int .i64 t.width, .int .i64 t.id, .int .i64 t.index, .slice fo t.kids.length fc] 37)) fun _ _ h => h
      have hcall := HI.out d1 rfl t fo fc _ (hr.kept fun b hb => gA.block b (HS.out b hb) id) (fun b hb => Nat.lt_of_lt_of_le (HS.out b hb) gA.size) hle hnb
      obtain ⟨M, hM⟩ : ∃ M, M = nP d1 t.kids := ⟨_, rfl⟩
      rw [← hM] at hcall hn1 hnb HN
      have HC := hidP hcall
      have HGA := hidP gA
      have hNM : N + (1 + M) ≤ 1000001 := by have := HK.out.2; have := Hb.out; omega
      have HKn := hidP HK.out.2
      obtain ⟨c0, c1, c2, c3, c4, c5, c6⟩ := hcW
      have hltI : (k : Int) < (L : Int) := by omega
      clear hcs hc hle hr hn1 hn2 hcall gA HK hx hM ht
      go_wp2_with (go_at_call 58; refine Hid.out ?_)
      unfold Hid
      refine Calls.mono HC.out ?_
      rintro e u ⟨hg, rfl⟩
      have HGu := hidP (HGA.out.trans hg fun _ _ h => h)
      clear hg HC HGA c0 c1 c2 c3 c4 c5 c6
      go_wp2_with fail
      go_roundw
      case rel => exact ⟨k + 1, N + (1 + M), by omega, hNM, by simp, by simp, HGu.out, by have := HKn.out; have := HN.out; omega⟩
      case measure => simp [intOf]; omega
    have hkL : k = L := by omega
    subst hkL
    have HF : Hid (N = 1 + nP d l) := by have := HK.out.2; rw [HL.out, List.take_length] at this; exact this
    have HGu := hidP HK.out.1
    clear HK
    go_wp2_with fail
    go_ret
    exact ⟨HGu.out, by rw [← HF.out]; rfl⟩
theorem count58 (S : Nat → Prop) : ∀ (d : Nat) (f : FT) (ko : Option Addr) (kc : Nat) (w : World), RowAt S w d ko f.kids → (∀ b, S b → b < w.heap.size) → f.kids.length ≤ kc → nP d f.kids ≤ 1000000 → Calls Tryz.prog 58 #[.agg #[.string f.name, .bool f.nul, .int .i64 f.kind, .int .i64 f.width, .int .i64 f.id, .int .i64 f.index, .slice ko f.kids.length kc]] w (fun e w' => Gr w w' ∧ e = .returned (.int .i64 ((1 + nP d f.kids : Nat) : Int)))
  | 0, f, ko, kc, w, h1, h2, h3, h4 => count58_step 0 S f ko kc w h1 h2 h3 h4 (fun d1 e => by cases e)
  | d + 1, f, ko, kc, w, h1, h2, h3, h4 => count58_step (d + 1) S f ko kc w h1 h2 h3 h4 (fun d1 e => by cases e; exact count58 S d)
def plc : Nat → List FT → List Nat → Nat
  | d + 1, l, n :: p => nP (d + 1) (l.take n) + (if p = [] then 0 else 1 + plc d (l[n]!).kids p)
  | _, _, _ => 0
def Way : Nat → List FT → List Nat → Prop
  | d + 1, l, n :: p => n < l.length ∧ (p ≠ [] → Way d (l[n]!).kids p)
  | _, _, [] => False
  | 0, _, _ :: _ => False
theorem plc_lt : ∀ (d : Nat) (l : List FT) (p : List Nat), Way d l p → plc d l p < nP d l
  | 0, _, [], h => h.elim
  | 0, _, _ :: _, h => h.elim
  | d + 1, _, [], h => h.elim
  | d + 1, l, n :: p, h => by
    obtain ⟨hn, hp⟩ := h
    have h1 := nP_take (d := d + 1) hn
    have h2 := nP_le (d := d + 1) (l := l) (n + 1)
    rw [nP_one] at h1
    show nP (d + 1) (l.take n) + (if p = [] then 0 else 1 + plc d (l[n]!).kids p) < nP (d + 1) l
    by_cases e : p = []
    · rw [if_pos e]; omega
    rw [if_neg e]
    have := plc_lt d _ p (hp e)
    rw [getElem!_pos l n hn] at this ⊢
    omega
theorem nodes_cnt : ∀ (d : Nat) (l : List FT) (path : List Nat) (inD : Bool), (nodes d l path inD).length = nP d l
  | 0, l, _, _ => by unfold nP; cases l <;> rfl
  | d + 1, l, path, inD => by
    have key : ∀ i, i ≤ l.length → (upto d l path inD i).length = nP (d + 1) (l.take i) := by
      intro i
      induction i with
      | zero => intro _; rw [List.take_zero, nP_nil]; rfl
      | succ i ihi =>
        intro hi
        rw [upto_succ, List.length_append, ihi (by omega), List.length_cons, nodes_cnt d, nP_take (d := d + 1) (show i < l.length by omega), nP_one, getElem!_pos l i (by omega)]
        omega
    rw [nodes_succ, key _ (Nat.le_refl _), List.take_length]
theorem node_plc : ∀ (d : Nat) (l : List FT) (path : List Nat) (inD : Bool) (j : Nat) (x : LS), (nodes d l path inD)[j]? = some x → ∃ q, x.path = path ++ q ∧ Way d l q ∧ plc d l q = j
  | 0, l, path, inD, j, x, h => by simp [nodes] at h
  | d + 1, l, path, inD, j, x, h => by
    have key : ∀ i, i ≤ l.length → ∀ j x, (upto d l path inD i)[j]? = some x → ∃ q, x.path = path ++ q ∧ Way (d + 1) l q ∧ plc (d + 1) l q = j := by
      intro i
      induction i with
      | zero => intro _ j x h; simp [upto_zero] at h
      | succ i ihi =>
        intro hi j x h
        have hl : (upto d l path inD i).length = nP (d + 1) (l.take i) := by
          have := nodes_cnt (d + 1) (l.take i) path inD
          rw [nodes_succ] at this
          rw [← this]
          have hlen : (l.take i).length = i := by rw [List.length_take]; omega
          rw [hlen]
          unfold upto
          rw [List.length_flatMap, List.length_flatMap]
          congr 1
          apply List.map_congr_left
          intro a ha
          have ha2 : a < i := List.mem_range.1 ha
          rw [getElem!_pos l a (by omega), getElem!_pos (l.take i) a (by omega), List.getElem_take, List.length_cons, List.length_cons]
        rw [upto_succ] at h
        by_cases hj : j < (upto d l path inD i).length
        · rw [List.getElem?_append_left hj] at h
          exact ihi (by omega) j x h
        rw [List.getElem?_append_right (by omega)] at h
        rw [hl] at h hj
        cases hz : j - nP (d + 1) (l.take i) with
        | zero =>
          rw [hz] at h
          simp only [List.getElem?_cons_zero, Option.some.injEq] at h
          subst h
          refine ⟨[i], rfl, ⟨by omega, fun e => absurd rfl e⟩, ?_⟩
          show nP (d + 1) (l.take i) + (if ([] : List Nat) = [] then 0 else _) = j
          rw [if_pos rfl]; omega
        | succ m =>
          rw [hz] at h
          simp only [List.getElem?_cons_succ] at h
          obtain ⟨q, e1, e2, e3⟩ := node_plc d _ _ _ m x h
          have hq : q ≠ [] := by intro e; subst e; cases d <;> exact e2
          refine ⟨i :: q, by rw [e1, List.append_assoc]; rfl, ⟨by omega, fun _ => e2⟩, ?_⟩
          show nP (d + 1) (l.take i) + (if q = [] then 0 else 1 + plc d (l[i]!).kids q) = j
          rw [if_neg hq, e3]; omega
    exact key l.length (Nat.le_refl _) j x (by rw [nodes_succ] at h; exact h)
theorem cell_in {w : World} {b i : Nat} {v : Value} (h : w.cell? ⟨b, i, none⟩ = some v) : b < w.heap.size := by
  by_cases hb : b < w.heap.size
  · exact hb
  exfalso
  have : w.heap[b]? = none := Array.getElem?_eq_none (by omega)
  simp [World.cell?, this] at h
end Go.Proofs.YtkodgneneiledaaGreatDoor.Kit
