import Derived.Test.YtknnoiomdngmfaaGreatDoorHB
import Derived.Test.YtknnoiomdngmfaaGreatDoorKitTwo
import Derived.Test.YtknnoiomdngmfaaGreatDoorLQ
set_option maxRecDepth 100000
set_option maxHeartbeats 4000000
namespace Go.Proofs.YtknnoiomdngmfaaGreatDoor.Kit
open Go.RowKit Go.Shelf Go.Deep
set_option linter.unusedVariables false
attribute [local go_sem] run_store_func
theorem equalFunc_nil (ao bo : Option Addr) (ca cb : Nat) (fv : Value) (w : World) :
    Calls Tryz.prog 110 #[.slice ao 0 ca, .slice bo 0 cb, fv] w fun e w' => e = .returned (.bool true) ∧ w' = w := by
  go_enter Tryz.func110, Tryz.ntmps110
  go_wp2
  go_loopw [17] (fun i wr => i = .int .i64 0 ∧ wr = w) (fun _ _ => 0)
  case atStart => exact ⟨rfl, rfl⟩
  case round =>
    obtain ⟨rfl, rfl⟩ := hrel
    go_wp2
    go_ret
    exact ⟨rfl, rfl⟩
end Go.Proofs.YtknnoiomdngmfaaGreatDoor.Kit
namespace Go.Proofs.YtknnoiomdngmfaaGreatDoor.Kit
open Go.RowKit Go.Shelf Go.Deep
def sameAll {α : Type} (p : α → α → Bool) : List α → List α → Bool
  | [], [] => true
  | f :: a, g :: b => p f g && sameAll p a b
  | [], _ :: _ => false
  | _ :: _, [] => false
theorem sameAll_len {α : Type} {p : α → α → Bool} : ∀ {a b : List α}, a.length ≠ b.length → sameAll p a b = false
  | [], [], h => absurd rfl h
  | [], _ :: _, _ => rfl
  | _ :: _, [], _ => rfl
  | _ :: a, _ :: b, h => by simp [sameAll, sameAll_len (a := a) (b := b) (by simpa using h)]
theorem sameAll_true {α : Type} {p : α → α → Bool} : ∀ {a b : List α}, a.length = b.length → (∀ i (h : i < a.length) (h' : i < b.length), p a[i] b[i] = true) → sameAll p a b = true
  | [], [], _, _ => rfl
  | [], _ :: _, h, _ => by simp at h
  | _ :: _, [], h, _ => by simp at h
  | f :: a, g :: b, h, hp => by
    have h0 : p f g = true := hp 0 (by simp) (by simp)
    have h1 := sameAll_true (p := p) (a := a) (b := b) (by simpa using h) (fun i hi hi' => hp (i + 1) (by simp; omega) (by simp; omega))
    simp [sameAll, h0, h1]
theorem sameAll_false {α : Type} {p : α → α → Bool} : ∀ {a b : List α} (i : Nat) (h : i < a.length) (h' : i < b.length), p a[i] b[i] = false → sameAll p a b = false
  | [], _, _, h, _, _ => by simp at h
  | _ :: _, [], _, _, h, _ => by simp at h
  | f :: a, g :: b, 0, _, _, hp => by
    have : p f g = false := hp
    simp [sameAll, this]
  | f :: a, g :: b, i + 1, h, h', hp => by
    have h1 := sameAll_false (p := p) (a := a) (b := b) i (by simp at h; omega) (by simp at h'; omega) hp
    simp [sameAll, h1]
def tyEq (f g : FT) : Bool := f.kind == g.kind && f.width == g.width && f.id == g.id && f.index == g.index
mutual
def sameLs : Nat → List FT → List FT → Bool
  | 0, a, b => sameAll (fun _ _ => true) a b
  | d + 1, a, b => sameAll (sameFd d) a b
def sameFd : Nat → FT → FT → Bool
  | d, f, g => sEq f.name g.name && (f.nul == g.nul) && (tyEq f g && sameLs d f.kids g.kids)
end
theorem sameLs_succ (d : Nat) (a b : List FT) : sameLs (d + 1) a b = sameAll (sameFd d) a b := by rw [sameLs]
theorem sameFd_eq (d : Nat) (f g : FT) : sameFd d f g = (sEq f.name g.name && (f.nul == g.nul) && (tyEq f g && sameLs d f.kids g.kids)) := by rw [sameFd]
def pre : Nat → List FT → List FT
  | 0, _ => []
  | d + 1, l => l.flatMap fun f => f :: pre d f.kids
def deep : Nat → List FT → Prop
  | 0, l => l = []
  | d + 1, l => ∀ f ∈ l, deep d f.kids
theorem RowAt.deep {S : Nat → Prop} {W : World} : ∀ {d : Nat} {ao : Option Addr} {l : List FT}, RowAt S W d ao l → Kit.deep d l
  | 0, _, _, h => h
  | d + 1, _, l, h => fun f hf => by
    obtain ⟨i, hi, rfl⟩ := List.mem_iff_getElem.1 hf
    obtain ⟨b, o, _, _, hc⟩ := h.2 (fun e => by subst e; simp at hi)
    obtain ⟨ao', ca', _, _, hr⟩ := hc i hi
    exact RowAt.deep hr
def nodeEq (f g : FT) : Bool := (f.nul == g.nul) && (tyEq f g && decide (f.kids.length = g.kids.length))
def nmEq (f g : FT) : Bool := nodeEq f g && sEq f.name g.name
theorem pre_same : ∀ (d : Nat) (a b ra rb : List FT), deep d a → deep d b → a.length = b.length → sameAll nmEq (pre d a ++ ra) (pre d b ++ rb) = (sameLs d a b && sameAll nmEq ra rb)
  | 0, a, b, ra, rb, ha, hb, _ => by
    have ha' : a = [] := ha
    have hb' : b = [] := hb
    subst ha' hb'
    simp [pre, sameLs, sameAll]
  | d + 1, a, b, ra, rb, ha, hb, hl => by
    rw [sameLs_succ]
    induction a generalizing b with
    | nil =>
      cases b with
      | nil => simp [pre, sameAll]
      | cons g b => simp at hl
    | cons f a ih =>
      cases b with
      | nil => simp at hl
      | cons g b =>
        have e1 : pre (d + 1) (f :: a) ++ ra = f :: (pre d f.kids ++ (pre (d + 1) a ++ ra)) := by simp [pre]
        have e2 : pre (d + 1) (g :: b) ++ rb = g :: (pre d g.kids ++ (pre (d + 1) b ++ rb)) := by simp [pre]
        rw [e1, e2, sameAll, sameAll]
        by_cases hk : f.kids.length = g.kids.length
        · rw [pre_same d f.kids g.kids _ _ (ha f (by simp)) (hb g (by simp)) hk, ih b (fun x hx => ha x (by simp [hx])) (fun x hx => hb x (by simp [hx])) (by simpa using hl)]
          rw [sameFd_eq, nmEq, nodeEq]
          simp only [hk, decide_true, Bool.and_true]
          cases f.nul == g.nul <;> cases tyEq f g <;> cases sEq f.name g.name <;> cases sameLs d f.kids g.kids <;> simp
        have h1 : nmEq f g = false := by simp [nmEq, nodeEq, hk]
        have h2 : sameLs d f.kids g.kids = false := by
          cases d with
          | zero => rw [sameLs]; exact sameAll_len hk
          | succ d => rw [sameLs_succ]; exact sameAll_len hk
        rw [sameFd_eq, h1, h2]
        simp
theorem nodes_pre : ∀ (d : Nat) (l : List FT) (path : List Nat) (inD : Bool), (nodes d l path inD).map LS.fld = pre d l
  | 0, _, _, _ => rfl
  | d + 1, l, path, inD => by
    have key : ∀ n, n ≤ l.length → (upto d l path inD n).map LS.fld = (l.take n).flatMap fun f => f :: pre d f.kids := by
      intro n
      induction n with
      | zero => intro _; simp [upto_zero]
      | succ n ih =>
        intro hn
        have hx : LS.fld ⟨l, path ++ [n], inD⟩ = l[n] := by
          have hi : LS.idx ⟨l, path ++ [n], inD⟩ = n := by simp [LS.idx]
          unfold LS.fld
          rw [hi]
          simp [List.getElem?_eq_getElem (show n < l.length by omega)]
        have hb : l[n]! = l[n] := getElem!_pos l n (by omega)
        rw [upto_succ, List.map_append, ih (by omega), List.map_cons, nodes_pre d, hx, hb, List.take_succ_eq_append_getElem (by omega), List.flatMap_append]
        simp
    have := key l.length (Nat.le_refl _)
    rw [nodes_succ, this, List.take_length]
    rfl
theorem sameAll_map {α β : Type} {p : β → β → Bool} (h : α → β) : ∀ (a b : List α), sameAll p (a.map h) (b.map h) = sameAll (fun x y => p (h x) (h y)) a b
  | [], [] => rfl
  | [], _ :: _ => rfl
  | _ :: _, [] => rfl
  | f :: a, g :: b => by simp [sameAll, sameAll_map h a b]
def ndEq (nm : Bool) (x y : LS) : Bool := nodeEq x.fld y.fld && (!(nm || decide (1 < x.path.length)) || sEq x.fld.name y.fld.name)
def alikeB (nm : Bool) (la lb : Nat) (N M : List LS) : Bool := decide (la = lb) && sameAll (ndEq nm) N M
end Go.Proofs.YtknnoiomdngmfaaGreatDoor.Kit
namespace Go.Proofs.YtknnoiomdngmfaaGreatDoor.Kit
open Go.RowKit Go.Shelf Go.Deep
set_option linter.unusedVariables false
attribute [local go_sem] run_store_func
def Ans (F : Nat) (args : Array Value) (b : Bool) (w : World) : Prop := ∀ W, Gr w W → Calls Tryz.prog F args W fun e w' => e = .returned (.bool b) ∧ Gr W w'
theorem Ans.gr {F : Nat} {args : Array Value} {b : Bool} {w W : World} (h : Ans F args b w) (g : Gr w W) : Ans F args b W := fun W' g' => h W' (g.tr g')
theorem beqZ {a b : Int} (h : ¬ a = b) : (a == b) = false := by simp [h]
theorem sameTypes_walk (k1 d1 i1 x1 k2 d2 i2 x2 : Int) (ao bo : Option Addr) (na ca nb cb : Nat) (r : Bool) (w : World) (h61 : Ans 110 #[.slice ao na ca, .slice bo nb cb, .func (.func 111) #[] #[]] r w) :
    Ans 75 #[.agg #[.int .i64 k1, .int .i64 d1, .int .i64 i1, .int .i64 x1, .slice ao na ca], .agg #[.int .i64 k2, .int .i64 d2, .int .i64 i2, .int .i64 x2, .slice bo nb cb]] ((k1 == k2 && d1 == d2 && i1 == i2 && x1 == x2) && r) w := by
  intro W g
  have H := hidM (h61.gr g)
  clear h61 g
  have HG : Hid (∀ o o', Gr W ((W.alloc o).alloc o')) := fun o o' => (gr_alloc W o).alloc o'
  go_enter Tryz.func75, Tryz.ntmps75
  by_cases e1 : k1 = k2
  · subst e1
    by_cases e2 : d1 = d2
    · subst e2
      by_cases e3 : i1 = i2
      · subst e3
        by_cases e4 : x1 = x2
        · subst e4
          go_wp2_with (go_at_call 110; refine Hid.out ?_)
          unfold Hid
          refine Calls.mono (H.out _ (HG.out _ _)) ?_
          rintro e W1 ⟨rfl, hg1⟩
          go_wp2_with fail
          go_ret
          exact ⟨by simp, (HG.out _ _).tr hg1⟩
        have e := beqZ e4
        go_wp2
        go_ret
        exact ⟨by simp [e], HG.out _ _⟩
      have e := beqZ e3
      go_wp2
      go_ret
      exact ⟨by simp [e], HG.out _ _⟩
    have e := beqZ e2
    go_wp2
    go_ret
    exact ⟨by simp [e], HG.out _ _⟩
  have e := beqZ e1
  go_wp2
  go_ret
  exact ⟨by simp [e], HG.out _ _⟩
theorem sameFields_walk (s1 s2 : ByteArray) (n1 n2 : Bool) (k1 d1 i1 x1 k2 d2 i2 x2 : Int) (ao bo : Option Addr) (na ca nb cb : Nat) (r : Bool) (w : World) (h50 : Ans 75 #[.agg #[.int .i64 k1, .int .i64 d1, .int .i64 i1, .int .i64 x1, .slice ao na ca], .agg #[.int .i64 k2, .int .i64 d2, .int .i64 i2, .int .i64 x2, .slice bo nb cb]] r w) :
    Ans 111 #[.agg #[.string s1, .bool n1, .int .i64 k1, .int .i64 d1, .int .i64 i1, .int .i64 x1, .slice ao na ca], .agg #[.string s2, .bool n2, .int .i64 k2, .int .i64 d2, .int .i64 i2, .int .i64 x2, .slice bo nb cb]] (sEq s1 s2 && (n1 == n2) && r) w := by
  intro W g
  have H := hidM (h50.gr g)
  clear h50 g
  have HG : Hid (∀ o o', Gr W ((W.alloc o).alloc o')) := fun o o' => (gr_alloc W o).alloc o'
  go_enter Tryz.func111, Tryz.ntmps111
  unfold sEq
  cases e1 : (s1.toList == s2.toList) with
  | true =>
    cases e2 : (n1 == n2) with
    | true =>
      obtain rfl : n1 = n2 := by simpa using e2
      clear e2
      go_wp2_with (go_at_call 75; refine Hid.out ?_)
      unfold Hid
      refine Calls.mono (H.out _ (HG.out _ _)) ?_
      rintro e W1 ⟨rfl, hg1⟩
      go_wp2_with fail
      go_ret
      exact ⟨by simp, (HG.out _ _).tr hg1⟩
    | false =>
      go_wp2
      go_ret
      exact ⟨by simp, HG.out _ _⟩
  | false =>
    go_wp2
    go_ret
    exact ⟨by simp, HG.out _ _⟩
theorem equalFunc_step (S : Nat → Prop) (d : Nat) (W : World) (ao bo : Option Addr) (ca cb : Nat) (a b : List FT) (ha : RowAt S W (d + 1) ao a) (hb : RowAt S W (d + 1) bo b) (hS : ∀ b, S b → b < W.heap.size)
    (h62 : ∀ (f g : FT) (ao bo : Option Addr) (ca cb : Nat), RowAt S W d ao f.kids → RowAt S W d bo g.kids → Ans 111 #[.agg #[.string f.name, .bool f.nul, .int .i64 f.kind, .int .i64 f.width, .int .i64 f.id, .int .i64 f.index, .slice ao f.kids.length ca], .agg #[.string g.name, .bool g.nul, .int .i64 g.kind, .int .i64 g.width, .int .i64 g.id, .int .i64 g.index, .slice bo g.kids.length cb]] (sameFd d f g) W) :
    Calls Tryz.prog 110 #[.slice ao a.length ca, .slice bo b.length cb, .func (.func 111) #[] #[]] W fun e w' => e = .returned (.bool (sameLs (d + 1) a b)) ∧ Gr W w' := by
  have hla : a.length ≤ 1000000000000 := ha.len
  have hlb : b.length ≤ 1000000000000 := hb.len
  have HA := hidM ha
  have HB := hidM hb
  have HS := hidM hS
  have H62 := hidM h62
  obtain ⟨R, hR⟩ : ∃ R, R = sameLs (d + 1) a b := ⟨_, rfl⟩
  rw [← hR]
  rw [sameLs_succ] at hR
  have HR := hidM hR
  obtain ⟨L, hL⟩ : ∃ L, L = a.length := ⟨_, rfl⟩
  obtain ⟨M, hM⟩ : ∃ M, M = b.length := ⟨_, rfl⟩
  rw [← hL] at hla ⊢
  rw [← hM] at hlb ⊢
  have HL := hidM hL
  have HM := hidM hM
  clear ha hb hS h62 hR hL hM
  go_enter Tryz.func110, Tryz.ntmps110
  by_cases hLM : L = M
  · subst hLM
    go_wp2
    go_loopw [17] (fun p wr => ∃ k : Nat, k ≤ L ∧ p = .int .i64 (k : Int) ∧ Hid (Gr W wr ∧ ∀ i (h : i < a.length) (h' : i < b.length), i < k → sameFd d a[i] b[i] = true)) (fun p _ => L - (intOf p).toNat)
    case atStart => exact ⟨0, by omega, rfl, Keeps.refl _ _, fun i _ _ h => by omega⟩
    case round =>
      obtain ⟨k, hk, rfl, HK⟩ := hrel
      by_cases hlt : k < L
      · have hka : k < a.length := by have := HL.out; omega
        have hkb : k < b.length := by have := HM.out; omega
        obtain ⟨x, o, rfl, hx, hcs⟩ := HA.out.2 (fun e => by subst e; simp at hka)
        obtain ⟨y, u, rfl, hy, hds⟩ := HB.out.2 (fun e => by subst e; simp at hkb)
        obtain ⟨ao', ca', hc, hle, hr⟩ := hcs k hka
        obtain ⟨bo', cb', hd, hle', hr'⟩ := hds k hkb
        have hcall := H62.out a[k] b[k] ao' bo' ca' cb' hr hr'
        have HP := hidM HK.out.2
        have HG := hidM HK.out.1
        obtain ⟨f, hf⟩ : ∃ f, f = a[k]'hka := ⟨_, rfl⟩
        obtain ⟨g, hg⟩ : ∃ g, g = b[k]'hkb := ⟨_, rfl⟩
        have g1 := hc.kept (HK.out.1.block x (HS.out x hx) id)
        have g2 := hd.kept (HK.out.1.block y (HS.out y hy) id)
        rw [← hf] at g1 hcall
        rw [← hg] at g2 hcall
        have H2 : Hid _ := hidM (fun W' (g : Gr W W') => hcall W' g)
        obtain ⟨p0, p1, p2, p3, p4, p5, p6⟩ := g1
        obtain ⟨q0, q1, q2, q3, q4, q5, q6⟩ := g2
        have q0 := fun o => (gr_alloc wr o).cell' q0 id
        have q1 := fun o => (gr_alloc wr o).cell' q1 id
        have q2 := fun o => (gr_alloc wr o).cell' q2 id
        have q3 := fun o => (gr_alloc wr o).cell' q3 id
        have q4 := fun o => (gr_alloc wr o).cell' q4 id
        have q5 := fun o => (gr_alloc wr o).cell' q5 id
        have q6 := fun o => (gr_alloc wr o).cell' q6 id
        have HF := hidM hf
        have HG' := hidM hg
        have hltI : (k : Int) < (L : Int) := by omega
        clear hcs hds hc hd hr hr' hcall hf hg HK
        obtain ⟨z, hz⟩ : ∃ z, z = sameFd d f g := ⟨_, rfl⟩
        rw [← hz] at H2
        have HZ := hidM hz
        clear hz
        cases z with
        | true =>
          go_wp2_with (go_at_call 111; refine Hid.out ?_)
          unfold Hid
          refine Calls.mono (H2.out _ ((HG.out.alloc _).alloc _)) ?_
          rintro e w2 ⟨rfl, hg2⟩
          have HE := hidM (((HG.out.alloc _).alloc _).tr hg2)
          clear hg2
          go_wp2_with fail
          go_roundw
          case rel =>
            refine ⟨k + 1, by omega, by simp, HE.out, fun i hi hi' h => ?_⟩
            by_cases e : i = k
            · subst e; rw [← HF.out, ← HG'.out]; exact HZ.out.symm
            exact HP.out i hi hi' (by omega)
          case measure => simp [intOf]; omega
        | false =>
          have HRf : Hid (R = false) := by show R = false; rw [HR.out]; exact sameAll_false k hka hkb (by rw [← HF.out, ← HG'.out]; exact HZ.out.symm)
          go_wp2_with (go_at_call 111; refine Hid.out ?_)
          unfold Hid
          refine Calls.mono (H2.out _ ((HG.out.alloc _).alloc _)) ?_
          rintro e w2 ⟨rfl, hg2⟩
          have HE := hidM (((HG.out.alloc _).alloc _).tr hg2)
          clear hg2
          go_wp2_with fail
          go_ret
          exact ⟨by rw [HRf.out]; rfl, HE.out⟩
      have HRt : Hid (R = true) := by
        show R = true
        rw [HR.out]
        refine sameAll_true (by have := HL.out; have := HM.out; omega) fun i hi hi' => HK.out.2 i hi hi' (by have := HL.out; omega)
      have hkL : k = L := by omega
      subst hkL
      have HG := hidM HK.out.1
      clear HK
      go_wp2
      go_ret
      exact ⟨by rw [HRt.out]; rfl, HG.out⟩
  have HRf : Hid (R = false) := by show R = false; rw [HR.out]; exact sameAll_len (by have := HL.out; have := HM.out; omega)
  have hb := beqZ (a := (L : Int)) (b := (M : Int)) (by omega)
  go_wp2
  go_ret
  exact ⟨by rw [HRf.out]; rfl, Keeps.refl _ _⟩
theorem same_any (S : Nat → Prop) : ∀ (d : Nat) (W : World) (ao bo : Option Addr) (ca cb : Nat) (a b : List FT), RowAt S W d ao a → RowAt S W d bo b → (∀ b, S b → b < W.heap.size) →
    Ans 110 #[.slice ao a.length ca, .slice bo b.length cb, .func (.func 111) #[] #[]] (sameLs d a b) W
  | 0, W, ao, bo, ca, cb, a, b, ha, hb, _ => by
    have ha' : a = [] := ha
    have hb' : b = [] := hb
    subst ha' hb'
    intro W' g
    refine Calls.mono (equalFunc_nil ao bo ca cb _ W') ?_
    rintro e w' ⟨rfl, rfl⟩
    exact ⟨by simp [sameLs, sameAll], Keeps.refl _ _⟩
  | d + 1, W, ao, bo, ca, cb, a, b, ha, hb, hS => by
    intro W' g
    have hk : KpOf S W W' := fun b hb => g.block b (hS b hb) id
    refine equalFunc_step S d W' ao bo ca cb a b (ha.kept hk) (hb.kept hk) (fun b hb => Nat.lt_of_lt_of_le (hS b hb) g.size) fun f g' ao bo ca cb h1 h2 => ?_
    have := sameFields_walk f.name g'.name f.nul g'.nul f.kind f.width f.id f.index g'.kind g'.width g'.id g'.index ao bo f.kids.length ca g'.kids.length cb _ W' (sameTypes_walk f.kind f.width f.id f.index g'.kind g'.width g'.id g'.index ao bo f.kids.length ca g'.kids.length cb _ W' (same_any S d W' ao bo ca cb f.kids g'.kids h1 h2 (fun b hb => Nat.lt_of_lt_of_le (hS b hb) g.size)))
    rw [sameFd_eq]
    exact this
end Go.Proofs.YtknnoiomdngmfaaGreatDoor.Kit
namespace Go.Proofs.YtknnoiomdngmfaaGreatDoor.Kit
open Go.RowKit Go.Shelf Go.Deep
set_option linter.unusedVariables false
attribute [local go_sem] run_store_func
theorem Tells.gr {F : Nat} {v : Value} {er : Int} {p : List Nat} {tt : Int} {w W : World} (h : Tells w F v er p tt) (g : Gr w W) : Tells W F v er p tt := fun W' g' => h W' (g.tr g')
theorem maybe_gen {fo no : Option Addr} {nf cf nn cn : Nat} {er tt : Int} {p : List Nat} {w : World} (h : Tells w 44 (.agg #[.slice fo nf cf, .slice no nn cn]) er p tt) :
    Ans 32 #[.agg #[.slice fo nf cf, .slice no nn cn]] (er == 0) w := by
  intro W g
  have HL := hidM (h.gr g)
  clear h g
  unfold Tells at HL
  have hfl : ∀ vo vn vc w, (Instr.field 60 (.agg #[.int .i64 er, .slice vo vn vc, .int .i64 tt]) 0).run Tryz.prog w = .ok (.int .i64 er) w := fun vo vn vc w => by kernel_rfl
  go_enter Tryz.func32, Tryz.ntmps32
  go_wp2_with (go_at_call 44; refine Hid.out ?_)
  unfold Hid
  refine Calls.mono (HL.out _ (gr_alloc W _)) ?_
  rintro e W1 ⟨vo, vc, rfl, hg1, -⟩
  have HE := hidM hg1
  clear hg1
  go_wp2_with fail
  go_ret
  exact ⟨rfl, (gr_alloc W _).tr HE.out⟩
end Go.Proofs.YtknnoiomdngmfaaGreatDoor.Kit
namespace Go.Proofs.YtknnoiomdngmfaaGreatDoor.Kit
open Go.RowKit Go.Shelf Go.Deep
set_option linter.unusedVariables false
attribute [local go_sem] run_store_func
end Go.Proofs.YtknnoiomdngmfaaGreatDoor.Kit
namespace Go.Proofs.YtknnoiomdngmfaaGreatDoor.Kit
open Go.RowKit Go.Shelf Go.Deep
set_option linter.unusedVariables false
theorem FaultIs.zero {E : Int × Int} {N : List LS} {p : List Nat} {k : Int} (h : FaultIs E N 0 p k) : E.1 = 0 ∧ AllR N := by
  rcases h with ⟨a, e, _⟩ | ⟨a, b, _⟩ | ⟨a, L, x, _, _, h3, e, _⟩
  · exact absurd e.symm a
  · exact ⟨a, b⟩
  exact absurd e.symm h3
theorem allr_cut {D : Nat} {fs : List FT} (h : AllR (nodes D fs [] false)) : grown [] (nodesC D fs [] false) = nodes D fs [] false := by
  have e := (cut_same D fs [] false 0 (by simp)).2 h.short
  rw [grown, List.nil_append, e, List.take_of_length_le (by have := h.len; omega)]
structure Sch (S : Nat → Prop) (w : World) (D : Nat) (fo no : Option Addr) (cf cn : Nat) (fs : List FT) (ns : List (ByteArray × ByteArray)) : Prop where
  row : RowAt S w D fo fs
  le : fs.length ≤ cf
  notes : NotesAt w no ns
structure SchT (w : World) (D : Nat) (fo no : Option Addr) (cf cn : Nat) (fs : List FT) (ns : List (ByteArray × ByteArray)) (er : Int) (p : List Nat) (tt : Int) : Prop where
  is : FaultIs (listsE fs.length ns) (nodes D fs [] false) er p tt
  t11 : Tells w 44 (.agg #[.slice fo fs.length cf, .slice no ns.length cn]) er p tt
  t12 : Tells w 50 (.agg #[.slice fo fs.length cf, .slice no ns.length cn]) er p tt
  look : ∀ W, Gr w W → Calls Tryz.prog 72 #[.agg #[.slice fo fs.length cf, .slice no ns.length cn]] W fun e w' => ∃ vo vn vc k', e = .returned (.tuple #[.agg #[.int .i64 er, .slice vo vn vc, .int .i64 tt], .int .i64 k']) ∧ Gr W w' ∧ (er = 0 → k' = ((nodes D fs [] false).length : Int))
theorem Sch.tells {S : Nat → Prop} {D : Nat} {fo no : Option Addr} {cf cn : Nat} {fs : List FT} {ns : List (ByteArray × ByteArray)} {w : World} (h : Sch S w D fo no cf cn fs ns) (hT : Tab w) (hD : D ≤ big) (hS : ∀ b, S b → b < w.heap.size) :
    ∃ er p tt, SchT w D fo no cf cn fs ns er p tt := by
  obtain ⟨er, p, tt, hF⟩ := fault_is (listsE fs.length ns) (nodes D fs [] false)
  refine ⟨er, p, tt, hF, fun W g => ?_, fun W g => ?_, fun W g => ?_⟩
  · refine Calls.mono (check_fault hT h.row h.le hD hS h.notes W g) ?_
    rintro e w' ⟨er', vo, vn, vc, tt', rfl, hg, p', rfl, h1, h2⟩
    obtain ⟨rfl, rfl, rfl⟩ := hF.one h1
    exact ⟨vo, vc, rfl, hg, ints_of_own h2⟩
  · refine Calls.mono (checkR_fault h.row h.le hS h.notes W g) ?_
    rintro e w' ⟨er', vo, vn, vc, tt', rfl, hg, p', rfl, h1, h2⟩
    obtain ⟨rfl, rfl, rfl⟩ := hF.cut.one h1
    exact ⟨vo, vc, rfl, hg, ints_of_own h2⟩
  refine Calls.mono (look_walk S D fo no cf cn fs ns W (hT.gr g) (h.row.kept fun b hb => g.block b (hS b hb) id) h.le hD (fun b hb => by have := hS b hb; have := g.size; omega) (h.notes.gr g)) ?_
  rintro e w' ⟨hg, h | h | h⟩
  · obtain ⟨h1, rfl⟩ := h
    obtain ⟨rfl, rfl, rfl⟩ := hF.one (.inl ⟨h1, rfl, rfl, rfl⟩)
    exact ⟨none, 0, 0, 0, rfl, hg, fun h => absurd h h1⟩
  · obtain ⟨h1, h2, rfl⟩ := h
    obtain ⟨rfl, rfl, rfl⟩ := hF.one (.inr (.inl ⟨h1, h2, rfl, rfl, rfl⟩))
    exact ⟨none, 0, 0, _, rfl, hg, fun _ => rfl⟩
  obtain ⟨h1, L, x, vo, vc, h2, h3, h4, rfl, h5, h6⟩ := h
  obtain ⟨rfl, rfl, rfl⟩ := hF.one (.inr (.inr ⟨h1, L, x, h2, h3, h4, rfl, rfl, rfl⟩))
  exact ⟨vo, _, vc, _, rfl, hg, fun h => absurd h h4⟩
end Go.Proofs.YtknnoiomdngmfaaGreatDoor.Kit
