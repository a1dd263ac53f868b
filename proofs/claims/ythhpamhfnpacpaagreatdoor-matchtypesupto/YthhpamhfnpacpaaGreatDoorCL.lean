import Derived.Test.YthhpamhfnpacpaaGreatDoorPE
set_option linter.unusedVariables false
set_option linter.unusedSimpArgs false
set_option maxRecDepth 100000
set_option maxHeartbeats 8000000
namespace Go.Proofs.YthhpamhfnpacpaaGreatDoor.Kit
open Go.RowKit Go.Shelf Go.Deep
open Kd (Ans cell5 cell2)
attribute [local go_sem] run_store_func
open Kd (NewB z37 info37 c37 c7 row7 row7_len row7_at row7_own)
theorem src58 {Z : World} {z : Nat} {v0 v1 v2 v3 v4 v5 v6 : Value} (h : Z.heap[z]? = some (.cells #[v0, v1, v2, v3, v4, v5, v6] 58)) (ho : ∀ v ∈ [v0, v1, v2, v3, v4, v5, v6], v.oneCell' = true) : Src Tryz.prog 7 22 (.slice (some ⟨z, 0, none⟩) 1 1) 1 [v0, v1, v2, v3, v4, v5, v6] Z := by
 refine Src.ofSlice (w := Z) Tryz.underlying22 ⟨z, 0, none⟩ 1 1 [v0, v1, v2, v3, v4, v5, v6] rfl (fun j v hj => ?_) ho
 rw [Addr.add_lit, Nat.zero_add]
 obtain ⟨c0, c1, c2, c3, c4, c5, c6⟩ := cell7 h
 match j, hj with
 | 0, hj => cases hj; exact c0
 | 1, hj => cases hj; exact c1
 | 2, hj => cases hj; exact c2
 | 3, hj => cases hj; exact c3
 | 4, hj => cases hj; exact c4
 | 5, hj => cases hj; exact c5
 | 6, hj => cases hj; exact c6
 | j + 7, hj => simp at hj
theorem row7_snoc (l : List FT) (f : FT) (F : Nat → Option Addr × Nat) (ko : Option Addr) (kc : Nat) :
  row7 l F ++ [.string f.name, .bool f.nul, .int .i64 f.kind, .int .i64 f.width, .int .i64 f.id, .int .i64 f.index, .slice ko f.kids.length kc] = row7 (l ++ [f]) (fun i => if i < l.length then F i else (ko, kc)) := by
 have hl := row7_len l F
 refine List.ext_getElem? fun j => ?_
 by_cases h : j < l.length * 7
 ·have hi : j / 7 < l.length := by omega
  have ht : j % 7 < 7 := by omega
  have e : j = j / 7 * 7 + j % 7 := by omega
  rw [List.getElem?_append_left (by omega), e, row7_at hi ht, row7_at (by simp; omega) ht]
  have hg : (l ++ [f])[j / 7]! = l[j / 7]! := by simp [List.getElem!_eq_getElem?_getD, List.getElem?_append_left hi]
  unfold c7
  simp only [if_pos hi, hg]
 rw [List.getElem?_append_right (by omega), hl]
 have hg : (l ++ [f])[l.length]! = f := by simp [List.getElem!_eq_getElem?_getD]
 by_cases h7 : j < l.length * 7 + 7
 ·obtain ⟨t, ht, rfl⟩ : ∃ t, t < 7 ∧ j = l.length * 7 + t := ⟨j - l.length * 7, by omega, by omega⟩
  rw [row7_at (by simp) ht, Nat.add_sub_cancel_left]
  match t, ht with
  | 0, _ => simp [c7]
  | 1, _ => simp [c7]
  | 2, _ => simp [c7]
  | 3, _ => simp [c7]
  | 4, _ => simp [c7]
  | 5, _ => simp [c7]
  | 6, _ => simp [c7]
 rw [List.getElem?_eq_none (by simp; omega), List.getElem?_eq_none (by rw [row7_len]; simp; omega)]
structure FsI (W wr : World) (d : Nat) (l : List FT) (vo : Option Addr) (vc : Nat) : Prop where
 gr : Gr W wr
 new : ∀ g, (Value.slice vo l.length vc).ownBlock = some g → W.heap.size ≤ g ∧ g < wr.heap.size
 own : ∃ F : Nat → Option Addr × Nat, wr.ownsRow 0 58 7 (.slice vo l.length vc) l.length (row7 l F) ∧ ∀ i (h : i < l.length), l[i].kids.length ≤ (F i).2 ∧ RowAt (fun b => NewB W wr b ∧ (Value.slice vo l.length vc).ownBlock ≠ some b) wr d (F i).1 l[i].kids
theorem FsI.nil0 (W : World) (d : Nat) : FsI W W d [] none 0 := ⟨Keeps.refl _ _, fun g h => by simp [Value.ownBlock] at h, fun _ => (Option.none, 0), World.ownsRow_nil W 0 58 7, fun i h => absurd h (by simp)⟩
theorem FsI.gr' {W wr w' : World} {d : Nat} {l : List FT} {vo : Option Addr} {vc : Nat} (h : FsI W wr d l vo vc) (g : Gr wr w') : FsI W w' d l vo vc := by
 obtain ⟨F, hF, hk⟩ := h.own
 have hs := g.size
 refine ⟨h.gr.tr g, fun b hb => ⟨(h.new b hb).1, by have := (h.new b hb).2; omega⟩, F, ?_, fun i hi => ⟨(hk i hi).1, ((hk i hi).2.kept fun b hb => g.block b hb.1.2 id).mono fun b hb => ⟨⟨hb.1.1, by have := hb.1.2; omega⟩, hb.2⟩⟩⟩
 rcases hF with ⟨h1, h2 | ⟨g0, cap, cur, e1, e2, e3, e4⟩⟩
 ·exact ⟨h1, .inl h2⟩
 exact ⟨h1, .inr ⟨g0, cap, cur, e1, e2, (g.block _ (lt_of_heap e3) id).trans e3, e4⟩⟩
theorem FsI.push {W wr wx w2 Z w4 : World} {d : Nat} {l : List FT} {f : FT} {vo vo' ko : Option Addr} {vc vc' kc : Nat} {F : Nat → Option Addr × Nat} (h : FsI W wr d l vo vc)
  (hF : wr.ownsRow 0 58 7 (.slice vo l.length vc) l.length (row7 l F) ∧ ∀ i (h : i < l.length), l[i].kids.length ≤ (F i).2 ∧ RowAt (fun b => NewB W wr b ∧ (Value.slice vo l.length vc).ownBlock ≠ some b) wr d (F i).1 l[i].kids)
  (hx : Gr wr wx) (h2 : Gr wx w2) (hz : Gr w2 Z) (hle : f.kids.length ≤ kc) (hr : RowAt (fun b => wx.heap.size ≤ b ∧ b < w2.heap.size) w2 d ko f.kids)
  (ho : w4.ownsRow 0 58 7 (.slice vo' (l.length + 1) vc') (l.length + 1) (row7 l F ++ [.string f.name, .bool f.nul, .int .i64 f.kind, .int .i64 f.width, .int .i64 f.id, .int .i64 f.index, .slice ko f.kids.length kc]))
  (hg : Z.grownBy w4 (Value.slice vo l.length vc).ownBlock) (hb : (Value.slice vo' (l.length + 1) vc').ownBlock = (Value.slice vo l.length vc).ownBlock ∨ ∀ g, (Value.slice vo' (l.length + 1) vc').ownBlock = some g → Z.heap.size ≤ g) :
  FsI W w4 d (l ++ [f]) vo' vc' := by
 have kz := Keeps.ofGrown hg
 have hWr := h.gr.size
 have s1 := hx.size
 have s2 := h2.size
 have s3 := hz.size
 have s4 := kz.size
 have hx2 := hx.tr h2
 have hxz := hx2.tr hz
 have hll : (l ++ [f]).length = l.length + 1 := by simp
 have hlt : ∀ g, (Value.slice vo' (l.length + 1) vc').ownBlock = some g → g < w4.heap.size := fun g e => by
  rcases ho with ⟨-, ⟨e1, -⟩ | ⟨g0, cap, cur, e1, e2, e3, -⟩⟩
  ·rw [e1] at e; simp [Value.ownBlock] at e
  rw [e1] at e
  have : g0 = g := by simpa [Value.ownBlock] using e
  exact this ▸ lt_of_heap e3
 refine ⟨(h.gr.tr hxz).trans kz (fun j hj e => by have := (h.new j e).1; omega), fun g e => ?_, fun i => if i < l.length then F i else (ko, kc), ?_, fun i hi => ?_⟩
 ·rw [hll] at e
  refine ⟨?_, hlt g e⟩
  rcases hb with hb | hb
  ·rw [hb] at e; exact (h.new g e).1
  have := hb g e; omega
 ·rw [hll, ← row7_snoc]; exact ho
 rw [hll] at hi ⊢
 have hne : ∀ b, b < Z.heap.size → (Value.slice vo l.length vc).ownBlock ≠ some b → (Value.slice vo' (l.length + 1) vc').ownBlock ≠ some b := fun b hb1 hb2 e => by
  rcases hb with hb | hb
  ·rw [hb] at e; exact hb2 e
  have := hb b e; omega
 by_cases c : i < l.length
 ·simp only [if_pos c, List.getElem_append_left c]
  obtain ⟨k1, k2⟩ := hF.2 i c
  refine ⟨k1, ((k2.kept fun b hb' => hxz.block b hb'.1.2 id).kept fun b hb' => kz.block b (by have := hb'.1.2; omega) (fun e => hb'.2 e)).mono fun b hb' => ⟨⟨hb'.1.1, by have := hb'.1.2; omega⟩, hne b (by have := hb'.1.2; omega) hb'.2⟩⟩
 have ci : i = l.length := by omega
 subst ci
 simp only [if_neg c, List.getElem_concat_length]
 have hnb : ∀ b, wx.heap.size ≤ b ∧ b < w2.heap.size → (Value.slice vo l.length vc).ownBlock ≠ some b := fun b hb' e => by have := (h.new b e).2; omega
 refine ⟨hle, ((hr.kept fun b hb' => hz.block b hb'.2 id).kept fun b hb' => kz.block b (by have := hb'.2; omega) (fun e => hnb b hb' e)).mono fun b hb' => ⟨⟨by have := hb'.1; omega, by have := hb'.2; omega⟩, hne b (by have := hb'.2; omega) (hnb b hb')⟩⟩
theorem FsI.row {W wr : World} {d : Nat} {l : List FT} {vo : Option Addr} {vc : Nat} (h : FsI W wr d l vo vc) (hl : l.length ≤ big) : l.length ≤ vc ∧ RowAt (NewB W wr) wr (d + 1) vo l := by
 obtain ⟨F, hF, hk⟩ := h.own
 have ho := hF
 rcases hF with ⟨h1, ⟨e1, e2⟩ | ⟨g, cap, cur, e1, e2, e3, e4, e5⟩⟩
 ·simp only [Value.slice.injEq] at e1
  refine ⟨by omega, hl, fun hn => absurd (List.eq_nil_of_length_eq_zero e1.2.1) hn⟩
 simp only [Value.slice.injEq] at e1
 obtain ⟨rfl, -, rfl⟩ := e1
 refine ⟨by omega, hl, fun hn => ⟨g, 0, rfl, ?_, fun i hi => ⟨(F i).1, (F i).2, by rw [Nat.zero_add]; exact row7_own ho i hi, (hk i hi).1, (hk i hi).2.mono fun b hb => hb.1⟩⟩⟩
 exact h.new g (by simp [Value.ownBlock])
open Kd (Ans cell5 cell2 Ans.gr)
def sameAllF {α : Type} (p : α → α → Bool) : List α → List α → Bool
 | [], [] => true
 | f :: a, g :: b => p f g && sameAllF p a b
 | [], _ :: _ => false
 | _ :: _, [] => false
theorem sameAllF_len {α : Type} {p : α → α → Bool} : ∀ {a b : List α}, a.length ≠ b.length → sameAllF p a b = false
 | [], [], h => absurd rfl h
 | [], _ :: _, _ => rfl
 | _ :: _, [], _ => rfl
 | _ :: a, _ :: b, h => by simp [sameAllF, sameAllF_len (a := a) (b := b) (by simpa using h)]
theorem sameAllF_true {α : Type} {p : α → α → Bool} : ∀ {a b : List α}, a.length = b.length → (∀ i (h : i < a.length) (h' : i < b.length), p a[i] b[i] = true) → sameAllF p a b = true
 | [], [], _, _ => rfl
 | [], _ :: _, h, _ => by simp at h
 | _ :: _, [], h, _ => by simp at h
 | f :: a, g :: b, h, hp => by
  have h0 : p f g = true := hp 0 (by simp) (by simp)
  have h1 := sameAllF_true (p := p) (a := a) (b := b) (by simpa using h) (fun i hi hi' => hp (i + 1) (by simp; omega) (by simp; omega))
  simp [sameAllF, h0, h1]
theorem sameAllF_false {α : Type} {p : α → α → Bool} : ∀ {a b : List α} (i : Nat) (h : i < a.length) (h' : i < b.length), p a[i] b[i] = false → sameAllF p a b = false
 | [], _, _, h, _, _ => by simp at h
 | _ :: _, [], _, _, h, _ => by simp at h
 | f :: a, g :: b, 0, _, _, hp => by
  have : p f g = false := hp
  simp [sameAllF, this]
 | f :: a, g :: b, i + 1, h, h', hp => by
  have h1 := sameAllF_false (p := p) (a := a) (b := b) i (by simp at h; omega) (by simp at h'; omega) hp
  simp [sameAllF, h1]
def tyEq (f g : FT) : Bool := f.kind == g.kind && f.width == g.width && f.id == g.id && f.index == g.index
mutual
def sameLs : Nat → List FT → List FT → Bool
 | 0, a, b => sameAllF (fun _ _ => true) a b
 | d + 1, a, b => sameAllF (sameFd d) a b
def sameFd : Nat → FT → FT → Bool
 | d, f, g => sEq f.name g.name && (f.nul == g.nul) && (tyEq f g && sameLs d f.kids g.kids)
end
theorem sameLs_succ (d : Nat) (a b : List FT) : sameLs (d + 1) a b = sameAllF (sameFd d) a b := by rw [sameLs]
theorem sameFd_eq (d : Nat) (f g : FT) : sameFd d f g = (sEq f.name g.name && (f.nul == g.nul) && (tyEq f g && sameLs d f.kids g.kids)) := by rw [sameFd]
def tyA (f g : FT) : Bool := f.kind == g.kind && f.width == g.width
mutual
def alLs : Nat → List FT → List FT → Bool
 | 0, a, b => sameAllF (fun _ _ => true) a b
 | d + 1, a, b => sameAllF (alFd d) a b
def alFd : Nat → FT → FT → Bool
 | d, f, g => sEq f.name g.name && (f.nul == g.nul) && (tyA f g && alLs d f.kids g.kids)
end
theorem alLs_succ (d : Nat) (a b : List FT) : alLs (d + 1) a b = sameAllF (alFd d) a b := by rw [alLs]
theorem alFd_eq (d : Nat) (f g : FT) : alFd d f g = (sEq f.name g.name && (f.nul == g.nul) && (tyA f g && alLs d f.kids g.kids)) := by rw [alFd]
theorem beqZF {a b : Int} (h : ¬ a = b) : (a == b) = false := by simp [h]
theorem equalFunc_nil (ao bo : Option Addr) (ca cb : Nat) (fv : Value) (w : World) :
  Calls Tryz.prog 38 #[.slice ao 0 ca, .slice bo 0 cb, fv] w fun e w' => e = .returned (.bool true) ∧ w' = w := by
 go_enter Tryz.func38, Tryz.ntmps38
 go_wp2
 go_loopw [17] (fun i wr => i = .int .i64 0 ∧ wr = w) (fun _ _ => 0)
 case atStart => exact ⟨rfl, rfl⟩
 case round =>
  obtain ⟨rfl, rfl⟩ := hrel
  go_wp2
  go_ret
  exact ⟨rfl, rfl⟩
theorem sameTypes_walk (k1 d1 i1 x1 k2 d2 i2 x2 : Int) (ao bo : Option Addr) (na ca nb cb : Nat) (r : Bool) (w : World) (h61 : Ans 38 #[.slice ao na ca, .slice bo nb cb, .func (.func 39) #[] #[]] r w) :
  Ans 23 #[.agg #[.int .i64 k1, .int .i64 d1, .int .i64 i1, .int .i64 x1, .slice ao na ca], .agg #[.int .i64 k2, .int .i64 d2, .int .i64 i2, .int .i64 x2, .slice bo nb cb]] ((k1 == k2 && d1 == d2) && r) w := by
 intro W g
 have H := hidM (h61.gr g)
 clear h61 g
 have HG : Hid (∀ o o', Gr W ((W.alloc o).alloc o')) := fun o o' => (gr_alloc W o).alloc o'
 go_enter Tryz.func23, Tryz.ntmps23
 by_cases e1 : k1 = k2
 ·subst e1
  by_cases e2 : d1 = d2
  ·subst e2
   go_wp2_with (go_at_call 38; refine Hid.out ?_)
   unfold Hid
   refine Calls.mono (H.out _ (HG.out _ _)) ?_
   rintro e W1 ⟨rfl, hg1⟩
   go_wp2_with fail
   go_ret
   exact ⟨by simp, (HG.out _ _).tr hg1⟩
  have e := beqZF e2
  go_wp2
  go_ret
  exact ⟨by simp [e], HG.out _ _⟩
 have e := beqZF e1
 go_wp2
 go_ret
 exact ⟨by simp [e], HG.out _ _⟩
theorem sameFields_walk (s1 s2 : ByteArray) (n1 n2 : Bool) (k1 d1 i1 x1 k2 d2 i2 x2 : Int) (ao bo : Option Addr) (na ca nb cb : Nat) (r : Bool) (w : World) (h50 : Ans 23 #[.agg #[.int .i64 k1, .int .i64 d1, .int .i64 i1, .int .i64 x1, .slice ao na ca], .agg #[.int .i64 k2, .int .i64 d2, .int .i64 i2, .int .i64 x2, .slice bo nb cb]] r w) :
  Ans 39 #[.agg #[.string s1, .bool n1, .int .i64 k1, .int .i64 d1, .int .i64 i1, .int .i64 x1, .slice ao na ca], .agg #[.string s2, .bool n2, .int .i64 k2, .int .i64 d2, .int .i64 i2, .int .i64 x2, .slice bo nb cb]] (sEq s1 s2 && (n1 == n2) && r) w := by
 intro W g
 have H := hidM (h50.gr g)
 clear h50 g
 have HG : Hid (∀ o o', Gr W ((W.alloc o).alloc o')) := fun o o' => (gr_alloc W o).alloc o'
 go_enter Tryz.func39, Tryz.ntmps39
 unfold sEq
 cases e1 : (s1.toList == s2.toList) with
 | true =>
  cases e2 : (n1 == n2) with
  | true =>
   obtain rfl : n1 = n2 := by simpa using e2
   clear e2
   go_wp2_with (go_at_call 23; refine Hid.out ?_)
   unfold Hid
   refine Calls.mono (H.out _ (HG.out _ _)) ?_
   rintro e W1 ⟨rfl, hg1⟩
   go_wp2_with fail
   go_ret
   exact ⟨by simp, (HG.out _ _).tr hg1⟩
  | false =>
   go_wp2
   go_ret
   exact ⟨by simp, HG.out _ _⟩
 | false =>
  go_wp2
  go_ret
  exact ⟨by simp, HG.out _ _⟩
theorem equalFuncF_step (S : Nat → Prop) (d : Nat) (W : World) (ao bo : Option Addr) (ca cb : Nat) (a b : List FT) (ha : RowAt S W (d + 1) ao a) (hb : RowAt S W (d + 1) bo b) (hS : ∀ b, S b → b < W.heap.size)
  (h62 : ∀ (f g : FT) (ao bo : Option Addr) (ca cb : Nat), RowAt S W d ao f.kids → RowAt S W d bo g.kids → Ans 39 #[.agg #[.string f.name, .bool f.nul, .int .i64 f.kind, .int .i64 f.width, .int .i64 f.id, .int .i64 f.index, .slice ao f.kids.length ca], .agg #[.string g.name, .bool g.nul, .int .i64 g.kind, .int .i64 g.width, .int .i64 g.id, .int .i64 g.index, .slice bo g.kids.length cb]] (alFd d f g) W) :
  Calls Tryz.prog 38 #[.slice ao a.length ca, .slice bo b.length cb, .func (.func 39) #[] #[]] W fun e w' => e = .returned (.bool (alLs (d + 1) a b)) ∧ Gr W w' := by
 have hla : a.length ≤ 1000000000000 := ha.len
 have hlb : b.length ≤ 1000000000000 := hb.len
 have HA := hidM ha
 have HB := hidM hb
 have HS := hidM hS
 have H62 := hidM h62
 obtain ⟨R, hR⟩ : ∃ R, R = alLs (d + 1) a b := ⟨_, rfl⟩
 rw [← hR]
 rw [alLs_succ] at hR
 have HR := hidM hR
 obtain ⟨L, hL⟩ : ∃ L, L = a.length := ⟨_, rfl⟩
 obtain ⟨M, hM⟩ : ∃ M, M = b.length := ⟨_, rfl⟩
 rw [← hL] at hla ⊢
 rw [← hM] at hlb ⊢
 have HL := hidM hL
 have HM := hidM hM
 clear ha hb hS h62 hR hL hM
 go_enter Tryz.func38, Tryz.ntmps38
 by_cases hLM : L = M
 ·subst hLM
  go_wp2
  go_loopw [17] (fun p wr => ∃ k : Nat, k ≤ L ∧ p = .int .i64 (k : Int) ∧ Hid (Gr W wr ∧ ∀ i (h : i < a.length) (h' : i < b.length), i < k → alFd d a[i] b[i] = true)) (fun p _ => L - (intOf p).toNat)
  case atStart => exact ⟨0, by omega, rfl, Keeps.refl _ _, fun i _ _ h => by omega⟩
  case round =>
   obtain ⟨k, hk, rfl, HK⟩ := hrel
   by_cases hlt : k < L
   ·have hka : k < a.length := by have := HL.out; omega
    have hkb : k < b.length := by have := HM.out; omega
    obtain ⟨x, o, rfl, hx, hcs⟩ := HA.out.2 (fun e => by subst e; simp at hka)
    obtain ⟨y, u, rfl, hy, hds⟩ := HB.out.2 (fun e => by subst e; simp at hkb)
    obtain ⟨ao', ca', hc, hle, hr⟩ := hcs k hka
    obtain ⟨bo', cb', hd, hle', hr'⟩ := hds k hkb
    have hcall := H62.out a[k] b[k] ao' bo' ca' cb' hr hr'
    have HP := hidM HK.out.2
    have HG := hidM HK.out.1
    obtain ⟨f, hf⟩ : ∃ f, f = a[k]'hka := ⟨_, rfl⟩
    obtain ⟨g, hg⟩ : ∃ g, g = b[k]'hkb := ⟨_, rfl⟩
    have g1 := hc.kept (HK.out.1.block x (HS.out x hx) id)
    have g2 := hd.kept (HK.out.1.block y (HS.out y hy) id)
    rw [← hf] at g1 hcall
    rw [← hg] at g2 hcall
    have H2 : Hid _ := hidM (fun W' (g : Gr W W') => hcall W' g)
    obtain ⟨p0, p1, p2, p3, p4, p5, p6⟩ := g1
    obtain ⟨q0, q1, q2, q3, q4, q5, q6⟩ := g2
    have q0 := fun o => (gr_alloc wr o).cell' q0 id
    have q1 := fun o => (gr_alloc wr o).cell' q1 id
    have q2 := fun o => (gr_alloc wr o).cell' q2 id
    have q3 := fun o => (gr_alloc wr o).cell' q3 id
    have q4 := fun o => (gr_alloc wr o).cell' q4 id
    have q5 := fun o => (gr_alloc wr o).cell' q5 id
    have q6 := fun o => (gr_alloc wr o).cell' q6 id
    have HF := hidM hf
    have HG' := hidM hg
    have hltI : (k : Int) < (L : Int) := by omega
    clear hcs hds hc hd hr hr' hcall hf hg HK
    obtain ⟨z, hz⟩ : ∃ z, z = alFd d f g := ⟨_, rfl⟩
    rw [← hz] at H2
    have HZ := hidM hz
    clear hz
    cases z with
    | true =>
     go_wp2_with (go_at_call 39; refine Hid.out ?_)
     unfold Hid
     refine Calls.mono (H2.out _ ((HG.out.alloc _).alloc _)) ?_
     rintro e w2 ⟨rfl, hg2⟩
     have HE := hidM (((HG.out.alloc _).alloc _).tr hg2)
     clear hg2
     go_wp2_with fail
     go_roundw
     case rel =>
      refine ⟨k + 1, by omega, by simp, HE.out, fun i hi hi' h => ?_⟩
      by_cases e : i = k
      ·subst e; rw [← HF.out, ← HG'.out]; exact HZ.out.symm
      exact HP.out i hi hi' (by omega)
     case measure => simp [intOf]; omega
    | false =>
     have HRf : Hid (R = false) := by show R = false; rw [HR.out]; exact sameAllF_false k hka hkb (by rw [← HF.out, ← HG'.out]; exact HZ.out.symm)
     go_wp2_with (go_at_call 39; refine Hid.out ?_)
     unfold Hid
     refine Calls.mono (H2.out _ ((HG.out.alloc _).alloc _)) ?_
     rintro e w2 ⟨rfl, hg2⟩
     have HE := hidM (((HG.out.alloc _).alloc _).tr hg2)
     clear hg2
     go_wp2_with fail
     go_ret
     exact ⟨by rw [HRf.out]; rfl, HE.out⟩
   have HRt : Hid (R = true) := by
    show R = true
    rw [HR.out]
    refine sameAllF_true (by have := HL.out; have := HM.out; omega) fun i hi hi' => HK.out.2 i hi hi' (by have := HL.out; omega)
   have hkL : k = L := by omega
   subst hkL
   have HG := hidM HK.out.1
   clear HK
   go_wp2
   go_ret
   exact ⟨by rw [HRt.out]; rfl, HG.out⟩
 have HRf : Hid (R = false) := by show R = false; rw [HR.out]; exact sameAllF_len (by have := HL.out; have := HM.out; omega)
 have hb := beqZF (a := (L : Int)) (b := (M : Int)) (by omega)
 go_wp2
 go_ret
 exact ⟨by rw [HRf.out]; rfl, Keeps.refl _ _⟩
theorem same_anyF (S : Nat → Prop) : ∀ (d : Nat) (W : World) (ao bo : Option Addr) (ca cb : Nat) (a b : List FT), RowAt S W d ao a → RowAt S W d bo b → (∀ b, S b → b < W.heap.size) →
  Ans 38 #[.slice ao a.length ca, .slice bo b.length cb, .func (.func 39) #[] #[]] (alLs d a b) W
 | 0, W, ao, bo, ca, cb, a, b, ha, hb, _ => by
  have ha' : a = [] := ha
  have hb' : b = [] := hb
  subst ha' hb'
  intro W' g
  refine Calls.mono (equalFunc_nil ao bo ca cb _ W') ?_
  rintro e w' ⟨rfl, rfl⟩
  exact ⟨by simp [alLs, sameAllF], Keeps.refl _ _⟩
 | d + 1, W, ao, bo, ca, cb, a, b, ha, hb, hS => by
  intro W' g
  have hk : KpOf S W W' := fun b hb => g.block b (hS b hb) id
  refine equalFuncF_step S d W' ao bo ca cb a b (ha.kept hk) (hb.kept hk) (fun b hb => Nat.lt_of_lt_of_le (hS b hb) g.size) fun f g' ao bo ca cb h1 h2 => ?_
  have := sameFields_walk f.name g'.name f.nul g'.nul f.kind f.width f.id f.index g'.kind g'.width g'.id g'.index ao bo f.kids.length ca g'.kids.length cb _ W' (sameTypes_walk f.kind f.width f.id f.index g'.kind g'.width g'.id g'.index ao bo f.kids.length ca g'.kids.length cb _ W' (same_anyF S d W' ao bo ca cb f.kids g'.kids h1 h2 (fun b hb => Nat.lt_of_lt_of_le (hS b hb) g.size)))
  rw [alFd_eq]
  exact this
theorem eqField_walk (s1 s2 : ByteArray) (n1 n2 : Bool) (k1 d1 i1 x1 k2 d2 i2 x2 : Int) (ao bo : Option Addr) (na ca nb cb : Nat) (r : Bool) (w : World) (h27 : Ans 19 #[.slice ao na ca, .slice bo nb cb] r w) :
  Ans 33 #[.agg #[.string s1, .bool n1, .int .i64 k1, .int .i64 d1, .int .i64 i1, .int .i64 x1, .slice ao na ca], .agg #[.string s2, .bool n2, .int .i64 k2, .int .i64 d2, .int .i64 i2, .int .i64 x2, .slice bo nb cb]] (sEq s1 s2 && (n1 == n2) && ((k1 == k2 && d1 == d2 && i1 == i2 && x1 == x2) && r)) w := by
 intro W g
 have H := hidM (h27.gr g)
 clear h27 g
 unfold sEq
 cases hs : (s1.toList == s2.toList) with
 | false =>
  go_enter Tryz.func33, Tryz.ntmps33
  go_wp2
  go_region
  all_goals go_wp2
  all_goals go_ret
  all_goals exact ⟨by simp, ((((gr_alloc _ _).alloc _).alloc _).alloc _).drew⟩
 | true =>
  go_enter Tryz.func33, Tryz.ntmps33
  go_wp2
  go_region
  all_goals go_wp2_with (go_at_call 19; refine Hid.out ?_)
  all_goals first
   | (go_ret
      refine ⟨congrArg (fun b => Ending.returned (.bool b)) ?_, ((((gr_alloc _ _).alloc _).alloc _).alloc _).drew⟩
      simp [*])
   | (unfold Hid
      refine Calls.mono (H.out _ ((((gr_alloc _ _).alloc _).alloc _).alloc _).drew) ?_
      rintro e W1 ⟨rfl, hg1⟩
      go_wp2_with fail
      go_ret
      exact ⟨by simp [*], ((((gr_alloc _ _).alloc _).alloc _).alloc _).drew.tr hg1⟩)
structure TwoF (w W : World) (x o y u : Nat) (f q : FT) (fo eo : Option Addr) (fc ec : Nat) : Prop where
 gr : Gr w W
 a : CellsAt W x o f fo fc
 b : CellsAt W y u q eo ec
theorem twoF {w W : World} {x o y u : Nat} {f q : FT} {fo eo : Option Addr} {fc ec : Nat} (t : TwoF w W x o y u f q fo eo fc ec) : Hid (TwoF w W x o y u f q fo eo fc ec) ∧ W.cell? ⟨x, o, none⟩ = some (.string f.name) ∧ W.cell? ⟨x, o + 1, none⟩ = some (.bool f.nul) ∧ W.cell? ⟨x, o + 2, none⟩ = some (.int .i64 f.kind) ∧ W.cell? ⟨x, o + 3, none⟩ = some (.int .i64 f.width) ∧ W.cell? ⟨x, o + 4, none⟩ = some (.int .i64 f.id) ∧ W.cell? ⟨x, o + 5, none⟩ = some (.int .i64 f.index) ∧ W.cell? ⟨x, o + 6, none⟩ = some (.slice fo f.kids.length fc) ∧ W.cell? ⟨y, u, none⟩ = some (.string q.name) ∧ W.cell? ⟨y, u + 1, none⟩ = some (.bool q.nul) ∧ W.cell? ⟨y, u + 2, none⟩ = some (.int .i64 q.kind) ∧ W.cell? ⟨y, u + 3, none⟩ = some (.int .i64 q.width) ∧ W.cell? ⟨y, u + 4, none⟩ = some (.int .i64 q.id) ∧ W.cell? ⟨y, u + 5, none⟩ = some (.int .i64 q.index) ∧ W.cell? ⟨y, u + 6, none⟩ = some (.slice eo q.kids.length ec) := ⟨t, t.a.c0, t.a.c1, t.a.c2, t.a.c3, t.a.c4, t.a.c5, t.a.c6, t.b.c0, t.b.c1, t.b.c2, t.b.c3, t.b.c4, t.b.c5, t.b.c6⟩
theorem TwoF.gr' {w W : World} {x o y u : Nat} {f q : FT} {fo eo : Option Addr} {fc ec : Nat} (t : TwoF w W x o y u f q fo eo fc ec) {W' : World} (k : Gr W W') : TwoF w W' x o y u f q fo eo fc ec := ⟨t.gr.tr k, t.a.kept (k.block _ (block_lt_of_cell t.a.c0) id), t.b.kept (k.block _ (block_lt_of_cell t.b.c0) id)⟩
theorem twoF_kept {w W : World} {x o y u : Nat} {f q : FT} {fo eo : Option Addr} {fc ec : Nat} {W' : World} (t : Hid (TwoF w W x o y u f q fo eo fc ec) ∧ W.cell? ⟨x, o, none⟩ = some (.string f.name) ∧ W.cell? ⟨x, o + 1, none⟩ = some (.bool f.nul) ∧ W.cell? ⟨x, o + 2, none⟩ = some (.int .i64 f.kind) ∧ W.cell? ⟨x, o + 3, none⟩ = some (.int .i64 f.width) ∧ W.cell? ⟨x, o + 4, none⟩ = some (.int .i64 f.id) ∧ W.cell? ⟨x, o + 5, none⟩ = some (.int .i64 f.index) ∧ W.cell? ⟨x, o + 6, none⟩ = some (.slice fo f.kids.length fc) ∧ W.cell? ⟨y, u, none⟩ = some (.string q.name) ∧ W.cell? ⟨y, u + 1, none⟩ = some (.bool q.nul) ∧ W.cell? ⟨y, u + 2, none⟩ = some (.int .i64 q.kind) ∧ W.cell? ⟨y, u + 3, none⟩ = some (.int .i64 q.width) ∧ W.cell? ⟨y, u + 4, none⟩ = some (.int .i64 q.id) ∧ W.cell? ⟨y, u + 5, none⟩ = some (.int .i64 q.index) ∧ W.cell? ⟨y, u + 6, none⟩ = some (.slice eo q.kids.length ec)) (k : Hid (Gr W W')) : Hid (TwoF w W' x o y u f q fo eo fc ec) ∧ W'.cell? ⟨x, o, none⟩ = some (.string f.name) ∧ W'.cell? ⟨x, o + 1, none⟩ = some (.bool f.nul) ∧ W'.cell? ⟨x, o + 2, none⟩ = some (.int .i64 f.kind) ∧ W'.cell? ⟨x, o + 3, none⟩ = some (.int .i64 f.width) ∧ W'.cell? ⟨x, o + 4, none⟩ = some (.int .i64 f.id) ∧ W'.cell? ⟨x, o + 5, none⟩ = some (.int .i64 f.index) ∧ W'.cell? ⟨x, o + 6, none⟩ = some (.slice fo f.kids.length fc) ∧ W'.cell? ⟨y, u, none⟩ = some (.string q.name) ∧ W'.cell? ⟨y, u + 1, none⟩ = some (.bool q.nul) ∧ W'.cell? ⟨y, u + 2, none⟩ = some (.int .i64 q.kind) ∧ W'.cell? ⟨y, u + 3, none⟩ = some (.int .i64 q.width) ∧ W'.cell? ⟨y, u + 4, none⟩ = some (.int .i64 q.id) ∧ W'.cell? ⟨y, u + 5, none⟩ = some (.int .i64 q.index) ∧ W'.cell? ⟨y, u + 6, none⟩ = some (.slice eo q.kids.length ec) := twoF (t.1.out.gr' k.out)
theorem twoF_g {w W : World} {x o y u : Nat} {f q : FT} {fo eo : Option Addr} {fc ec : Nat} (t : Hid (TwoF w W x o y u f q fo eo fc ec) ∧ W.cell? ⟨x, o, none⟩ = some (.string f.name) ∧ W.cell? ⟨x, o + 1, none⟩ = some (.bool f.nul) ∧ W.cell? ⟨x, o + 2, none⟩ = some (.int .i64 f.kind) ∧ W.cell? ⟨x, o + 3, none⟩ = some (.int .i64 f.width) ∧ W.cell? ⟨x, o + 4, none⟩ = some (.int .i64 f.id) ∧ W.cell? ⟨x, o + 5, none⟩ = some (.int .i64 f.index) ∧ W.cell? ⟨x, o + 6, none⟩ = some (.slice fo f.kids.length fc) ∧ W.cell? ⟨y, u, none⟩ = some (.string q.name) ∧ W.cell? ⟨y, u + 1, none⟩ = some (.bool q.nul) ∧ W.cell? ⟨y, u + 2, none⟩ = some (.int .i64 q.kind) ∧ W.cell? ⟨y, u + 3, none⟩ = some (.int .i64 q.width) ∧ W.cell? ⟨y, u + 4, none⟩ = some (.int .i64 q.id) ∧ W.cell? ⟨y, u + 5, none⟩ = some (.int .i64 q.index) ∧ W.cell? ⟨y, u + 6, none⟩ = some (.slice eo q.kids.length ec)) : Gr w W := t.1.out.gr
theorem eqFields_step (S : Nat → Prop) (d : Nat) (W : World) (ao bo : Option Addr) (ca cb : Nat) (a b : List FT) (ha : RowAt S W (d + 1) ao a) (hb : RowAt S W (d + 1) bo b) (hca : a.length ≤ ca) (hcb : b.length ≤ cb) (hS : ∀ b, S b → b < W.heap.size)
  (h39 : ∀ (f q : FT) (fo eo : Option Addr) (fc ec : Nat), RowAt S W d fo f.kids → RowAt S W d eo q.kids → f.kids.length ≤ fc → q.kids.length ≤ ec → Ans 33 #[.agg #[.string f.name, .bool f.nul, .int .i64 f.kind, .int .i64 f.width, .int .i64 f.id, .int .i64 f.index, .slice fo f.kids.length fc], .agg #[.string q.name, .bool q.nul, .int .i64 q.kind, .int .i64 q.width, .int .i64 q.id, .int .i64 q.index, .slice eo q.kids.length ec]] (sameFd d f q) W) :
  Calls Tryz.prog 19 #[.slice ao a.length ca, .slice bo b.length cb] W fun e w' => e = .returned (.bool (sameLs (d + 1) a b)) ∧ Gr W w' := by
 have hla : a.length ≤ 1000000000000 := ha.len
 have hlb : b.length ≤ 1000000000000 := hb.len
 have HA := hidM ha
 have HB := hidM hb
 have HS := hidM hS
 have H39 := hidM h39
 obtain ⟨R, hR⟩ : ∃ R, R = sameLs (d + 1) a b := ⟨_, rfl⟩
 rw [← hR]
 rw [sameLs_succ] at hR
 have HR := hidM hR
 obtain ⟨L, hL⟩ : ∃ L, L = a.length := ⟨_, rfl⟩
 obtain ⟨M, hM⟩ : ∃ M, M = b.length := ⟨_, rfl⟩
 rw [← hL] at hla hca ⊢
 rw [← hM] at hlb hcb ⊢
 have HL := hidM hL
 have HM := hidM hM
 clear ha hb hS h39 hR hL hM
 go_enter Tryz.func19, Tryz.ntmps19
 by_cases hLM : L = M
 ·subst hLM
  go_wp2
  go_loopw [13] (fun p wr => ∃ k : Nat, k ≤ L ∧ p = .int .i64 (k : Int) ∧ Hid (Gr W wr ∧ ∀ i (h : i < a.length) (h' : i < b.length), i < k → sameFd d a[i] b[i] = true)) (fun p _ => L - (intOf p).toNat)
  case atStart => exact ⟨0, by omega, rfl, Keeps.refl _ _, fun i _ _ h => by omega⟩
  case round =>
   obtain ⟨k, hk, rfl, HK⟩ := hrel
   by_cases hlt : k < L
   ·have hka : k < a.length := by have := HL.out; omega
    have hkb : k < b.length := by have := HM.out; omega
    obtain ⟨x, o, rfl, hx, hcs⟩ := HA.out.2 (fun e => by subst e; simp at hka)
    obtain ⟨y, u, rfl, hy, hds⟩ := HB.out.2 (fun e => by subst e; simp at hkb)
    obtain ⟨fo, fc, hc, hle, hr⟩ := hcs k hka
    obtain ⟨eo, ec, hd, hle', hr'⟩ := hds k hkb
    have hcall := H39.out a[k] b[k] fo eo fc ec hr hr' hle hle'
    have HP := hidM HK.out.2
    obtain ⟨f, hf⟩ : ∃ f, f = a[k]'hka := ⟨_, rfl⟩
    obtain ⟨q, hq⟩ : ∃ q, q = b[k]'hkb := ⟨_, rfl⟩
    have g1 := hc.kept (HK.out.1.block x (HS.out x hx) id)
    have g2 := hd.kept (HK.out.1.block y (HS.out y hy) id)
    rw [← hf] at g1 hcall
    rw [← hq] at g2 hcall
    have HT : Hid (TwoF W wr x (o + k * 7) y (u + k * 7) f q fo eo fc ec) := ⟨HK.out.1, g1, g2⟩
    have H2 := hidM hcall
    have HF := hidM hf
    have HQ := hidM hq
    have hltI : (k : Int) < (L : Int) := by omega
    clear hcs hds hc hd hr hr' hcall hf hq HK g1 g2 hle hle'
    obtain ⟨z, hz⟩ : ∃ z, z = sameFd d f q := ⟨_, rfl⟩
    rw [← hz] at H2
    unfold Ans at H2
    have HZ := hidM hz
    clear hz
    go_wp2
    have HIN : Hid (Hid (TwoF W wr.drew x (o + k * 7) y (u + k * 7) f q fo eo fc ec) ∧ wr.drew.cell? ⟨x, o + k * 7, none⟩ = some (.string f.name) ∧ wr.drew.cell? ⟨x, o + k * 7 + 1, none⟩ = some (.bool f.nul) ∧ wr.drew.cell? ⟨x, o + k * 7 + 2, none⟩ = some (.int .i64 f.kind) ∧ wr.drew.cell? ⟨x, o + k * 7 + 3, none⟩ = some (.int .i64 f.width) ∧ wr.drew.cell? ⟨x, o + k * 7 + 4, none⟩ = some (.int .i64 f.id) ∧ wr.drew.cell? ⟨x, o + k * 7 + 5, none⟩ = some (.int .i64 f.index) ∧ wr.drew.cell? ⟨x, o + k * 7 + 6, none⟩ = some (.slice fo f.kids.length fc) ∧ wr.drew.cell? ⟨y, u + k * 7, none⟩ = some (.string q.name) ∧ wr.drew.cell? ⟨y, u + k * 7 + 1, none⟩ = some (.bool q.nul) ∧ wr.drew.cell? ⟨y, u + k * 7 + 2, none⟩ = some (.int .i64 q.kind) ∧ wr.drew.cell? ⟨y, u + k * 7 + 3, none⟩ = some (.int .i64 q.width) ∧ wr.drew.cell? ⟨y, u + k * 7 + 4, none⟩ = some (.int .i64 q.id) ∧ wr.drew.cell? ⟨y, u + k * 7 + 5, none⟩ = some (.int .i64 q.index) ∧ wr.drew.cell? ⟨y, u + k * 7 + 6, none⟩ = some (.slice eo q.kids.length ec)) := twoF (HT.out.gr' gr_drew)
    go_region_held3 (fun w' => Hid (TwoF W w' x (o + k * 7) y (u + k * 7) f q fo eo fc ec) ∧ w'.cell? ⟨x, o + k * 7, none⟩ = some (.string f.name) ∧ w'.cell? ⟨x, o + k * 7 + 1, none⟩ = some (.bool f.nul) ∧ w'.cell? ⟨x, o + k * 7 + 2, none⟩ = some (.int .i64 f.kind) ∧ w'.cell? ⟨x, o + k * 7 + 3, none⟩ = some (.int .i64 f.width) ∧ w'.cell? ⟨x, o + k * 7 + 4, none⟩ = some (.int .i64 f.id) ∧ w'.cell? ⟨x, o + k * 7 + 5, none⟩ = some (.int .i64 f.index) ∧ w'.cell? ⟨x, o + k * 7 + 6, none⟩ = some (.slice fo f.kids.length fc) ∧ w'.cell? ⟨y, u + k * 7, none⟩ = some (.string q.name) ∧ w'.cell? ⟨y, u + k * 7 + 1, none⟩ = some (.bool q.nul) ∧ w'.cell? ⟨y, u + k * 7 + 2, none⟩ = some (.int .i64 q.kind) ∧ w'.cell? ⟨y, u + k * 7 + 3, none⟩ = some (.int .i64 q.width) ∧ w'.cell? ⟨y, u + k * 7 + 4, none⟩ = some (.int .i64 q.id) ∧ w'.cell? ⟨y, u + k * 7 + 5, none⟩ = some (.int .i64 q.index) ∧ w'.cell? ⟨y, u + k * 7 + 6, none⟩ = some (.slice eo q.kids.length ec)) (first | with_reducible exact HIN.out | with_reducible exact twoF_kept (by assumption) hk1)
     (first | (go_at_call 33; refine Calls.mono (H2.out _ (twoF_g (by assumption))) ?_; rintro e' v1 ⟨rfl, hk1⟩; replace hk1 := hidM hk1))
    rename_i hHeld
    have HE := hidM hHeld.1.out.gr
    clear hHeld hk1 HIN HT H2
    cases z with
    | true =>
     go_wp2
     go_roundw
     case rel =>
      refine ⟨k + 1, by omega, by simp, HE.out, fun i hi hi' h => ?_⟩
      by_cases e : i = k
      ·subst e; rw [← HF.out, ← HQ.out]; exact HZ.out.symm
      exact HP.out i hi hi' (by omega)
     case measure => simp [intOf]; omega
    | false =>
     have HRf : Hid (R = false) := by show R = false; rw [HR.out]; exact sameAllF_false k hka hkb (by rw [← HF.out, ← HQ.out]; exact HZ.out.symm)
     go_wp2
     go_ret
     exact ⟨by rw [HRf.out]; rfl, HE.out⟩
   have HRt : Hid (R = true) := by
    show R = true
    rw [HR.out]
    refine sameAllF_true (by have := HL.out; have := HM.out; omega) fun i hi hi' => HK.out.2 i hi hi' (by have := HL.out; omega)
   have hkL : k = L := by omega
   subst hkL
   have HG := hidM HK.out.1
   clear HK
   go_wp2
   go_ret
   exact ⟨by rw [HRt.out]; rfl, HG.out⟩
 have HRf : Hid (R = false) := by show R = false; rw [HR.out]; exact sameAllF_len (by have := HL.out; have := HM.out; omega)
 have hb := beqZF (a := (L : Int)) (b := (M : Int)) (by omega)
 go_wp2
 go_ret
 exact ⟨by rw [HRf.out]; rfl, Keeps.refl _ _⟩
theorem eqFields_nil (ao bo : Option Addr) (ca cb : Nat) (w : World) :
  Calls Tryz.prog 19 #[.slice ao 0 ca, .slice bo 0 cb] w fun e w' => e = .returned (.bool true) ∧ w' = w := by
 go_enter Tryz.func19, Tryz.ntmps19
 go_wp2
 go_loopw [13] (fun i wr => i = .int .i64 0 ∧ wr = w) (fun _ _ => 0)
 case atStart => exact ⟨rfl, rfl⟩
 case round =>
  obtain ⟨rfl, rfl⟩ := hrel
  go_wp2
  go_ret
  exact ⟨rfl, rfl⟩
theorem eqFields_any (S : Nat → Prop) : ∀ (d : Nat) (W : World) (ao bo : Option Addr) (ca cb : Nat) (a b : List FT), RowAt S W d ao a → RowAt S W d bo b → a.length ≤ ca → b.length ≤ cb → (∀ b, S b → b < W.heap.size) →
  Ans 19 #[.slice ao a.length ca, .slice bo b.length cb] (sameLs d a b) W
 | 0, W, ao, bo, ca, cb, a, b, ha, hb, _, _, _ => by
  have ha' : a = [] := ha
  have hb' : b = [] := hb
  subst ha' hb'
  intro W' g
  refine Calls.mono (eqFields_nil ao bo ca cb W') ?_
  rintro e w' ⟨rfl, rfl⟩
  exact ⟨by simp [sameLs, sameAllF], Keeps.refl _ _⟩
 | d + 1, W, ao, bo, ca, cb, a, b, ha, hb, hca, hcb, hS => by
  intro W' g
  have hk : KpOf S W W' := fun b hb => g.block b (hS b hb) id
  have hS' : ∀ b, S b → b < W'.heap.size := fun b hb => Nat.lt_of_lt_of_le (hS b hb) g.size
  refine eqFields_step S d W' ao bo ca cb a b (ha.kept hk) (hb.kept hk) hca hcb hS' fun f q fo eo fc ec h1 h2 h3 h4 => ?_
  have := eqField_walk f.name q.name f.nul q.nul f.kind f.width f.id f.index q.kind q.width q.id q.index fo eo f.kids.length fc q.kids.length ec _ W' (eqFields_any S d W' fo eo fc ec f.kids q.kids h1 h2 h3 h4 hS')
  rw [sameFd_eq]
  exact this
theorem alike32_walk (k1 d1 i1 x1 k2 d2 i2 x2 : Int) (ao bo : Option Addr) (na ca nb cb : Nat) (r : Bool) (w : World) (h19 : Ans 19 #[.slice ao na ca, .slice bo nb cb] r w) :
  Ans 32 #[.agg #[.int .i64 k1, .int .i64 d1, .int .i64 i1, .int .i64 x1, .slice ao na ca], .agg #[.int .i64 k2, .int .i64 d2, .int .i64 i2, .int .i64 x2, .slice bo nb cb]] ((k1 == k2 && d1 == d2) && r) w := by
 intro W g
 have H := hidM (h19.gr g)
 clear h19 g
 have HG : Hid (∀ o o', Gr W ((W.alloc o).alloc o')) := fun o o' => (gr_alloc W o).alloc o'
 go_enter Tryz.func32, Tryz.ntmps32
 by_cases e1 : k1 = k2
 ·subst e1
  by_cases e2 : d1 = d2
  ·subst e2
   go_wp2_with (go_at_call 19; refine Hid.out ?_)
   unfold Hid
   refine Calls.mono (H.out _ (HG.out _ _)) ?_
   rintro e W1 ⟨rfl, hg1⟩
   go_wp2_with fail
   go_ret
   exact ⟨by simp, (HG.out _ _).tr hg1⟩
  have e := beqZF e2
  go_wp2
  go_ret
  exact ⟨by simp [e], HG.out _ _⟩
 have e := beqZF e1
 go_wp2
 go_ret
 exact ⟨by simp [e], HG.out _ _⟩
theorem alike23 (S : Nat → Prop) (d : Nat) (W : World) (f g : FT) (fo go : Option Addr) (fc gc : Nat) (h1 : RowAt S W d fo f.kids) (h2 : RowAt S W d go g.kids) (hS : ∀ b, S b → b < W.heap.size) :
  Ans 23 #[.agg #[.int .i64 f.kind, .int .i64 f.width, .int .i64 f.id, .int .i64 f.index, .slice fo f.kids.length fc], .agg #[.int .i64 g.kind, .int .i64 g.width, .int .i64 g.id, .int .i64 g.index, .slice go g.kids.length gc]] (tyA f g && alLs d f.kids g.kids) W := sameTypes_walk f.kind f.width f.id f.index g.kind g.width g.id g.index fo go f.kids.length fc g.kids.length gc _ W (same_anyF S d W fo go fc gc f.kids g.kids h1 h2 hS)
theorem alike32 (S : Nat → Prop) (d : Nat) (W : World) (f g : FT) (fo go : Option Addr) (fc gc : Nat) (h1 : RowAt S W d fo f.kids) (h2 : RowAt S W d go g.kids) (h3 : f.kids.length ≤ fc) (h4 : g.kids.length ≤ gc) (hS : ∀ b, S b → b < W.heap.size) :
  Ans 32 #[.agg #[.int .i64 f.kind, .int .i64 f.width, .int .i64 f.id, .int .i64 f.index, .slice fo f.kids.length fc], .agg #[.int .i64 g.kind, .int .i64 g.width, .int .i64 g.id, .int .i64 g.index, .slice go g.kids.length gc]] (tyA f g && sameLs d f.kids g.kids) W := alike32_walk f.kind f.width f.id f.index g.kind g.width g.id g.index fo go f.kids.length fc g.kids.length gc _ W (eqFields_any S d W fo go fc gc f.kids g.kids h1 h2 h3 h4 hS)
def clean : Nat → FT → Prop
 | 0, f => (f.id = 0 ∧ f.index = 0) ∧ f.kids = []
 | d + 1, f => (f.id = 0 ∧ f.index = 0) ∧ ∀ g ∈ f.kids, clean d g
theorem clean_top : ∀ {d : Nat} {f : FT}, clean d f → f.id = 0 ∧ f.index = 0
 | 0, _, h => h.1
 | _ + 1, _, h => h.1
theorem clean_up : ∀ {d : Nat} {f : FT}, clean d f → clean (d + 1) f
 | 0, f, h => ⟨h.1, fun g hg => by rw [h.2] at hg; cases hg⟩
 | d + 1, f, h => ⟨h.1, fun g hg => clean_up (h.2 g hg)⟩
theorem sameAllF_congr {p q : FT → FT → Bool} : ∀ (a b : List FT), (∀ x ∈ a, ∀ y ∈ b, p x y = q x y) → sameAllF p a b = sameAllF q a b
 | [], [], _ => rfl
 | [], _ :: _, _ => rfl
 | _ :: _, [], _ => rfl
 | x :: a, y :: b, h => by
  rw [sameAllF, sameAllF, h x (by simp) y (by simp), sameAllF_congr a b (fun x hx y hy => h x (by simp [hx]) y (by simp [hy]))]
theorem al_same : ∀ (d : Nat) (a b : List FT), (∀ f ∈ a, clean d f) → (∀ f ∈ b, clean d f) → alLs d a b = sameLs d a b
 | 0, a, b, _, _ => by rw [alLs, sameLs]
 | d + 1, a, b, ha, hb => by
  rw [alLs_succ, sameLs_succ]
  refine sameAllF_congr a b fun x hx y hy => ?_
  have cx := ha x hx
  have cy := hb y hy
  rw [alFd_eq, sameFd_eq, al_same d x.kids y.kids cx.2 cy.2]
  simp [tyA, tyEq, cx.1.1, cx.1.2, cy.1.1, cy.1.2]
open Kd (ZsAt ZsAt.gr)
def plc (l : List Int) (x : Int) : Int := match l.findIdx? (· == x) with | some i => (i : Int) | none => -1
theorem plc_at {l : List Int} {x : Int} {k : Nat} (hk : k < l.length) (h : ∀ i (h : i < l.length), i < k → ¬ l[i] = x) (hx : l[k] = x) : plc l x = k := by
 unfold plc
 rw [List.findIdx?_eq_some_iff_getElem.2 ⟨hk, by simp [hx], fun j hj => by simpa using h j (by omega) hj⟩]
theorem plc_no {l : List Int} {x : Int} (h : ∀ i (h : i < l.length), ¬ l[i] = x) : plc l x = -1 := by
 unfold plc
 rw [List.findIdx?_eq_none_iff.2 fun y hy => by
  obtain ⟨i, hi, rfl⟩ := List.getElem_of_mem hy
  simpa using h i hi]
theorem among18 (l : List Int) (x : Int) (po : Option Addr) (pc : Nat) (W : World) (hl : l.length ≤ 1000000000000) (hz : ZsAt W po l) : Calls Tryz.prog 18 #[.slice po l.length pc, .int .i64 x] W fun e w' => e = .returned (.int .i64 (plc l x)) ∧ w' = W := by
 have HZ := hidM hz
 obtain ⟨L, hL⟩ : ∃ L, L = l.length := ⟨_, rfl⟩
 rw [← hL] at hl ⊢
 obtain ⟨R, hR⟩ : ∃ R, R = plc l x := ⟨_, rfl⟩
 rw [← hR]
 have HR := hidM hR
 have HL := hidM hL
 clear hz hL hR
 go_enter Tryz.func18, Tryz.ntmps18
 go_wp2_with fail
 go_loopw [5] (fun p wr => ∃ k : Nat, k ≤ L ∧ p = .int .i64 (k : Int) ∧ wr = W ∧ Hid (∀ i (h : i < l.length), i < k → ¬ l[i] = x)) (fun p _ => L - (intOf p).toNat)
 case atStart => exact ⟨0, by omega, rfl, rfl, fun i _ h => absurd h (by omega)⟩
 case round =>
  obtain ⟨k, hk, rfl, rfl, HK⟩ := hrel
  by_cases hlt : k < L
  ·have hkl : k < l.length := by have := HL.out; omega
   obtain ⟨b, o, rfl, hc⟩ := HZ.out (fun e => by subst e; simp at hkl)
   have c := hc k hkl
   obtain ⟨y, hy⟩ : ∃ y, y = l[k]'hkl := ⟨_, rfl⟩
   rw [← hy] at c
   have HY := hidM hy
   have hltI : (k : Int) < (L : Int) := by omega
   clear hc hy
   by_cases e : y = x
   ·subst e
    have HE : Hid (R = (k : Int)) := by show R = k; rw [HR.out]; exact plc_at hkl HK.out HY.out.symm
    go_wp2_with fail
    go_ret
    exact ⟨by rw [HE.out]; rfl, rfl⟩
   have eb : (y == x) = false := by simp [e]
   have eb2 : (x == y) = false := by simp; exact fun h => e h.symm
   have e' : ¬ x = y := fun h => e h.symm
   go_wp2_with fail
   go_roundw
   case rel =>
    refine ⟨k + 1, by omega, by simp, by first | rfl | trivial, fun i hi h => ?_⟩
    by_cases e1 : i = k
    ·subst e1; rw [← HY.out]; exact e
    exact HK.out i hi (by omega)
   case measure => simp [intOf]; omega
  have HE : Hid (R = -1) := by show R = -1; rw [HR.out]; exact plc_no fun i hi => HK.out i hi (by have := HL.out; omega)
  have hkl : k = L := by omega
  subst hkl
  go_wp2_with fail
  go_ret
  exact ⟨by rw [HE.out]; rfl, rfl⟩
theorem index26 (l : List Int) (x : Int) (po : Option Addr) (pc : Nat) (W : World) (hl : l.length ≤ 1000000000000) (hz : ZsAt W po l) : Calls Tryz.prog 26 #[.slice po l.length pc, .int .i64 x] W fun e w' => e = .returned (.int .i64 (plc l x)) ∧ w' = W := by
 have HZ := hidM hz
 obtain ⟨L, hL⟩ : ∃ L, L = l.length := ⟨_, rfl⟩
 rw [← hL] at hl ⊢
 obtain ⟨R, hR⟩ : ∃ R, R = plc l x := ⟨_, rfl⟩
 rw [← hR]
 have HR := hidM hR
 have HL := hidM hL
 clear hz hL hR
 go_enter Tryz.func26, Tryz.ntmps26
 go_wp2_with fail
 go_loopw [8] (fun p wr => ∃ k : Nat, k ≤ L ∧ p = .int .i64 (k : Int) ∧ wr = W ∧ Hid (∀ i (h : i < l.length), i < k → ¬ l[i] = x)) (fun p _ => L - (intOf p).toNat)
 case atStart => exact ⟨0, by omega, rfl, rfl, fun i _ h => absurd h (by omega)⟩
 case round =>
  obtain ⟨k, hk, rfl, rfl, HK⟩ := hrel
  by_cases hlt : k < L
  ·have hkl : k < l.length := by have := HL.out; omega
   obtain ⟨b, o, rfl, hc⟩ := HZ.out (fun e => by subst e; simp at hkl)
   have c := hc k hkl
   obtain ⟨y, hy⟩ : ∃ y, y = l[k]'hkl := ⟨_, rfl⟩
   rw [← hy] at c
   have HY := hidM hy
   have hltI : (k : Int) < (L : Int) := by omega
   clear hc hy
   by_cases e : y = x
   ·subst e
    have HE : Hid (R = (k : Int)) := by show R = k; rw [HR.out]; exact plc_at hkl HK.out HY.out.symm
    go_wp2_with fail
    go_ret
    exact ⟨by rw [HE.out]; rfl, rfl⟩
   have eb : (y == x) = false := by simp [e]
   have eb2 : (x == y) = false := by simp; exact fun h => e h.symm
   have e' : ¬ x = y := fun h => e h.symm
   go_wp2_with fail
   go_roundw
   case rel =>
    refine ⟨k + 1, by omega, by simp, by first | rfl | trivial, fun i hi h => ?_⟩
    by_cases e1 : i = k
    ·subst e1; rw [← HY.out]; exact e
    exact HK.out i hi (by omega)
   case measure => simp [intOf]; omega
  have HE : Hid (R = -1) := by show R = -1; rw [HR.out]; exact plc_no fun i hi => HK.out i hi (by have := HL.out; omega)
  have hkl : k = L := by omega
  subst hkl
  go_wp2_with fail
  go_ret
  exact ⟨by rw [HE.out]; rfl, rfl⟩
theorem contains28 (l : List Int) (x : Int) (po : Option Addr) (pc : Nat) (W : World) (hl : l.length ≤ 1000000000000) (hz : ZsAt W po l) : Calls Tryz.prog 28 #[.slice po l.length pc, .int .i64 x] W fun e w' => e = .returned (.bool (decide (0 ≤ plc l x))) ∧ w' = W := by
 have HC := hidM (index26 l x po pc W hl hz)
 clear hz
 go_enter Tryz.func28, Tryz.ntmps28
 go_wp2_with (go_at_call 26; refine HC.out.mono ?_; rintro e w1 ⟨rfl, rfl⟩)
 go_ret
 exact ⟨by simp, rfl⟩
theorem keepsLeft27 (k : Int) (W : World) : Calls Tryz.prog 27 #[.int .i64 k] W fun e w' => e = .returned (.bool (decide (k = 4 ∨ k = 5))) ∧ w' = W := by
 by_cases h4 : k = 4
 ·subst h4
  go_enter Tryz.func27, Tryz.ntmps27
  go_wp2_with fail
  go_ret
  exact ⟨rfl, rfl⟩
 have e4 : (k == 4) = false := by simp [h4]
 by_cases h5 : k = 5
 ·subst h5
  go_enter Tryz.func27, Tryz.ntmps27
  go_wp2_with fail
  go_ret
  exact ⟨rfl, rfl⟩
 have e5 : (k == 5) = false := by simp [h5]
 go_enter Tryz.func27, Tryz.ntmps27
 go_wp2_with fail
 go_ret
 exact ⟨by simp [h4, h5], rfl⟩
def goodK (n : Nat) (l : List Int) (i : Nat) (x : Int) : Prop := 0 ≤ x ∧ x < (n : Int) ∧ ∀ j (h : j < l.length), j < i → ¬ l[j] = x
def keysOk (n : Nat) (l : List Int) : Prop := ∀ i (h : i < l.length), goodK n l i l[i]
theorem plc_take {l : List Int} {x : Int} {k : Nat} (hk : k < l.length) : 0 ≤ plc (l.take k) x ↔ ∃ j, ∃ h : j < l.length, j < k ∧ l[j] = x := by
 constructor
 ·intro h
  refine Classical.byContradiction fun hn => ?_
  rw [plc_no (fun i hi he => hn ⟨i, by simp at hi; omega, by simp at hi; omega, by simpa using he⟩)] at h
  omega
 rintro ⟨j, hj, hjk, e⟩
 refine Classical.byContradiction fun hn => ?_
 unfold plc at hn
 cases h : (l.take k).findIdx? (· == x) with
 | some i => rw [h] at hn; exact hn (Int.natCast_nonneg i)
 | none =>
  rw [List.findIdx?_eq_none_iff] at h
  have := h x (by rw [← e]; exact List.mem_take_iff_getElem.2 ⟨j, by omega, rfl⟩)
  simp at this
theorem ZsAt.take {W : World} {po : Option Addr} {l : List Int} (k : Nat) (h : ZsAt W po l) : ZsAt W po (l.take k) := fun hn => by
 obtain ⟨b, o, e, hc⟩ := h (fun e => hn (by rw [e]; simp))
 exact ⟨b, o, e, fun j hj => by rw [List.getElem_take]; exact hc j (by simp at hj; omega)⟩
theorem areKeys22 (l : List Int) (po fo no : Option Addr) (pc n cf nn cn : Nat) (b : Bool) (W : World) (hl : l.length ≤ 1000000000000) (hpc : l.length ≤ pc) (hz : ZsAt W po l) (hb : b = true ↔ l.length ≠ 0 ∧ l.length ≤ 8 ∧ keysOk n l) :
  Calls Tryz.prog 22 #[.agg #[.slice fo n cf, .slice no nn cn], .slice po l.length pc] W fun e w' => e = .returned (.bool b) ∧ Gr W w' := by
 obtain ⟨A, hA, gA, hbk⟩ := nw W (.cells #[.slice fo n cf, .slice no nn cn] 25)
 obtain ⟨e0, e1⟩ := cell2 hbk
 have HG := hidM gA
 have HZ := hidM (hz.gr gA)
 have HB := hidM hb
 obtain ⟨L, hL⟩ : ∃ L, L = l.length := ⟨_, rfl⟩
 rw [← hL] at hl hpc ⊢
 have HL := hidM hL
 clear gA hbk hz hb hL
 by_cases h0 : L = 0
 ·subst h0
  have hf : b = false := by
   cases b with
   | false => rfl
   | true => exact absurd HL.out.symm (HB.out.1 rfl).1
  subst hf
  go_enter Tryz.func22, Tryz.ntmps22
  go_wp2_with fail
  go_ret
  exact ⟨rfl, HG.out⟩
 have c0 : ((L : Int) == 0) = false := by simp; omega
 by_cases h8 : 8 < L
 ·have hf : b = false := by
   cases b with
   | false => rfl
   | true => exact absurd ((HB.out.1 rfl).2.1) (by have := HL.out; omega)
  subst hf
  have c8 : (8 : Int) < (L : Int) := by omega
  go_enter Tryz.func22, Tryz.ntmps22
  go_wp2_with fail
  go_ret
  exact ⟨rfl, HG.out⟩
 have c8 : ¬ (8 : Int) < (L : Int) := by omega
 go_enter Tryz.func22, Tryz.ntmps22
 go_wp2_with fail
 go_loopw [17] (fun p wr => ∃ k : Nat, k ≤ L ∧ p = .int .i64 (k : Int) ∧ wr = A ∧ Hid (∀ i (h : i < l.length), i < k → goodK n l i l[i])) (fun p _ => L - (intOf p).toNat)
 case atStart => exact ⟨0, by omega, rfl, rfl, fun i _ h => absurd h (by omega)⟩
 case round =>
  obtain ⟨k, hk, rfl, rfl, HK⟩ := hrel
  by_cases hlt : k < L
  ·have hkl : k < l.length := by have := HL.out; omega
   obtain ⟨bb, o, rfl, hc⟩ := HZ.out (fun e => by subst e; simp at hkl)
   have c := hc k hkl
   obtain ⟨y, hy⟩ : ∃ y, y = l[k]'hkl := ⟨_, rfl⟩
   rw [← hy] at c
   have HY := hidM hy
   have hltI : (k : Int) < (L : Int) := by omega
   have hkL : (k : Int) ≤ (pc : Int) := by omega
   have HC := hidM (contains28 (l.take k) y _ pc wr (by simp; omega) (ZsAt.take k HZ.out))
   rw [show (l.take k).length = k by simp; omega] at HC
   have hbad : ¬ goodK n l k y → b = false := fun h => by
    cases b with
    | false => rfl
    | true => exact absurd (HY.out ▸ (HB.out.1 rfl).2.2 k hkl) h
   have HBad := hidM hbad
   clear hc hy hbad
   by_cases hn : y < 0
   ·obtain rfl := HBad.out (fun h => by have := h.1; omega)
    go_wp2_with fail
    go_ret
    exact ⟨rfl, HG.out⟩
   by_cases hm : (n : Int) ≤ y
   ·obtain rfl := HBad.out (fun h => by have := h.2.1; omega)
    go_wp2_with fail
    go_ret
    exact ⟨rfl, HG.out⟩
   by_cases hd : 0 ≤ plc (l.take k) y
   ·obtain rfl := HBad.out (fun h => by
     obtain ⟨j, hj, hjk, e⟩ := (plc_take hkl).1 hd
     exact h.2.2 j hj hjk e)
    have hdd : decide (0 ≤ plc (l.take k) y) = true := by simp [hd]
    rw [hdd] at HC
    clear hd hdd
    go_wp2_with (go_at_call 28; refine HC.out.mono ?_; rintro e w1 ⟨rfl, rfl⟩)
    go_ret
    exact ⟨rfl, HG.out⟩
   have hgood : goodK n l k y := ⟨by omega, by omega, fun j hj hjk e => hd ((plc_take hkl).2 ⟨j, hj, hjk, e⟩)⟩
   have HGd := hidM hgood
   have hdd : decide (0 ≤ plc (l.take k) y) = false := by simp [hd]
   rw [hdd] at HC
   clear hd hdd hgood
   go_wp2_with (go_at_call 28; refine HC.out.mono ?_; rintro e w1 ⟨rfl, rfl⟩)
   go_roundw
   case rel =>
    refine ⟨k + 1, by omega, by simp, by first | rfl | trivial, fun i hi h => ?_⟩
    by_cases e1 : i = k
    ·subst e1; rw [← HY.out]; exact HGd.out
    exact HK.out i hi (by omega)
   case measure => simp [intOf]; omega
  have hkl : k = L := by omega
  subst hkl
  obtain rfl : b = true := HB.out.2 ⟨by have := HL.out; omega, by have := HL.out; omega, fun i hi => HK.out i hi (by have := HL.out; omega)⟩
  go_wp2_with fail
  go_ret
  exact ⟨rfl, HG.out⟩
theorem keysMay31 (l : List Int) (po fo no : Option Addr) (pc n cf nn cn : Nat) (b : Bool) (W : World) (hl : l.length ≤ 1000000000000) (hz : ZsAt W po l) (hb : b = true ↔ keysOk n l) :
  Calls Tryz.prog 31 #[.agg #[.slice fo n cf, .slice no nn cn], .slice po l.length pc] W fun e w' => e = .returned (.bool b) ∧ Gr W w' := by
 obtain ⟨A, hA, gA, hbk⟩ := nw W (.cells #[.slice fo n cf, .slice no nn cn] 25)
 have HE0 : Hid (∀ u, Gr A u → u.cell? ⟨W.heap.size, 0, none⟩ = some (.slice fo n cf)) := fun u g => g.cell' (cell2 hbk).1 id
 have HG := hidM gA
 have HZ := hidM (hz.gr gA)
 have HB := hidM hb
 obtain ⟨L, hL⟩ : ∃ L, L = l.length := ⟨_, rfl⟩
 rw [← hL] at hl ⊢
 have HL := hidM hL
 clear gA hbk hz hb hL
 go_enter Tryz.func31, Tryz.ntmps31
 go_wp2_with fail
 go_loopw [5] (fun p wr => ∃ k : Nat, k ≤ L ∧ p = .int .i64 (k : Int) ∧ Hid (Gr A wr ∧ ∀ i (h : i < l.length), i < k → goodK n l i l[i])) (fun p _ => L - (intOf p).toNat)
 case atStart => exact ⟨0, by omega, rfl, Keeps.refl _ _, fun i _ h => absurd h (by omega)⟩
 case round =>
  obtain ⟨k, hk, rfl, HK⟩ := hrel
  by_cases hlt : k < L
  ·have hkl : k < l.length := by have := HL.out; omega
   obtain ⟨bb, o, rfl, hc⟩ := HZ.out (fun e => by subst e; simp at hkl)
   have HC : Hid (∀ u, Gr A u → ∀ j (h : j < l.length), u.cell? ⟨bb, o + j, none⟩ = some (.int .i64 l[j])) := fun u g j h => g.cell' (hc j h) id
   have HD := hidM (HK.out.1.tr (gr_drew (w := wr)))
   obtain ⟨y, hy⟩ : ∃ y, y = l[k]'hkl := ⟨_, rfl⟩
   have HY := hidM hy
   have hltI : (k : Int) < (L : Int) := by omega
   have hbad : ¬ goodK n l k y → b = false := fun h => by
    cases b with
    | false => rfl
    | true => exact absurd (HY.out ▸ HB.out.1 rfl k hkl) h
   have HBad := hidM hbad
   have HS : Hid (wr.drew.cell? ⟨bb, o + k, none⟩ = some (.int .i64 y) ∧ wr.drew.cell? ⟨W.heap.size, 0, none⟩ = some (.slice fo n cf)) := by
    refine ⟨?_, HE0.out _ HD.out⟩
    rw [hy]; exact HC.out _ HD.out k hkl
   clear hc hy hbad
   by_cases hn : y < 0
   ·obtain rfl := HBad.out (fun h => by have := h.1; omega)
    have hs1 := HS.out.1
    have hs2 := HS.out.2
    go_wp2_with fail
    go_region
    all_goals go_wp2
    all_goals go_ret
    all_goals exact ⟨rfl, HG.out.tr HD.out⟩
   obtain ⟨yn, rfl⟩ : ∃ yn : Nat, y = (yn : Int) := ⟨y.toNat, by omega⟩
   by_cases hm : (n : Int) ≤ (yn : Int)
   ·obtain rfl := HBad.out (fun h => by have := h.2.1; omega)
    go_wp2_with fail
    go_region_held3 (fun u => u.cell? ⟨bb, o + k, none⟩ = some (.int .i64 (yn : Int)) ∧ u.cell? ⟨W.heap.size, 0, none⟩ = some (.slice fo n cf)) (first | with_reducible exact HS.out) (fail)
    go_wp2_with fail
    go_ret
    exact ⟨rfl, HG.out.tr HD.out⟩
   go_wp2_with fail
   go_region_held3 (fun u => u.cell? ⟨bb, o + k, none⟩ = some (.int .i64 (yn : Int)) ∧ u.cell? ⟨W.heap.size, 0, none⟩ = some (.slice fo n cf)) (first | with_reducible exact HS.out) (fail)
   obtain ⟨D, hD⟩ : ∃ D, D = wr.drew := ⟨_, rfl⟩
   rw [← hD] at HD
   (try rw [← hD])
   rename_i hHeld
   clear hHeld HS hD
   go_wp2_with fail
   go_loopw [6] (fun p w2 => ∃ j : Nat, j ≤ k ∧ p = .int .i64 (j : Int) ∧ Hid (Gr A w2 ∧ ∀ i (h : i < l.length), i < j → ¬ l[i] = (yn : Int))) (fun p _ => k - (intOf p).toNat)
   case atStart => exact ⟨0, by omega, rfl, HD.out, fun i _ h => absurd h (by omega)⟩
   case round =>
    obtain ⟨j, hj, rfl, HJ⟩ := hrel
    by_cases hjk : j < k
    ·have hjl : j < l.length := by omega
     have HD2 := hidM (HJ.out.1.tr (gr_drew (w := wr)))
     obtain ⟨x, hx⟩ : ∃ x, x = l[j]'hjl := ⟨_, rfl⟩
     have HX := hidM hx
     have HS : Hid (wr.drew.cell? ⟨bb, o + j, none⟩ = some (.int .i64 x) ∧ wr.drew.cell? ⟨bb, o + k, none⟩ = some (.int .i64 (yn : Int))) := by
      refine ⟨?_, ?_⟩
      ·rw [hx]; exact HC.out _ HD2.out j hjl
      rw [HY.out]; exact HC.out _ HD2.out k hkl
     have hjI : (j : Int) < (k : Int) := by omega
     have hjL : (j : Int) < (L : Int) := by omega
     clear hx
     by_cases e : x = (yn : Int)
     ·subst e
      obtain rfl := HBad.out (fun h => h.2.2 j hjl hjk HX.out.symm)
      go_wp2_with fail
      go_region_held3 (fun u => u.cell? ⟨bb, o + j, none⟩ = some (.int .i64 (yn : Int)) ∧ u.cell? ⟨bb, o + k, none⟩ = some (.int .i64 (yn : Int))) (first | with_reducible exact HS.out) (fail)
      go_wp2_with fail
      go_ret
      exact ⟨rfl, HG.out.tr HD2.out⟩
     have eb : (x == (yn : Int)) = false := by simp [e]
     go_wp2_with fail
     go_region_held3 (fun u => u.cell? ⟨bb, o + j, none⟩ = some (.int .i64 x) ∧ u.cell? ⟨bb, o + k, none⟩ = some (.int .i64 (yn : Int))) (first | with_reducible exact HS.out) (fail)
     go_wp2_with fail
     go_roundw
     case rel =>
      refine ⟨j + 1, by omega, by simp, HD2.out, fun i hi h => ?_⟩
      by_cases e1 : i = j
      ·subst e1; rw [← HX.out]; exact e
      exact HJ.out.2 i hi (by omega)
     case measure => simp [intOf]; omega
    have hjk : j = k := by omega
    subst hjk
    have hgood : goodK n l j (yn : Int) := ⟨by omega, by omega, fun i hi h => HJ.out.2 i hi h⟩
    have HGd := hidM hgood
    clear hgood
    go_wp2_with fail
    go_roundw
    case rel =>
     refine ⟨j + 1, by omega, by simp, HJ.out.1, fun i hi h => ?_⟩
     by_cases e1 : i = j
     ·subst e1; rw [← HY.out]; exact HGd.out
     exact HK.out.2 i hi (by omega)
    case measure => simp [intOf]; omega
  have hkl : k = L := by omega
  subst hkl
  obtain rfl : b = true := HB.out.2 (fun i hi => HK.out.2 i hi (by have := HL.out; omega))
  go_wp2_with fail
  go_ret
  exact ⟨rfl, HG.out.tr HK.out.1⟩
theorem wrongSchemas11_1 (fo no go mo : Option Addr) (n cf nn cn m cg mm cm : Nat) (e1 e2 t1 t2 : Int) (p1 p2 : List Nat) (W : World) (h1 : Tells W 21 (.agg #[.slice fo n cf, .slice no nn cn]) e1 p1 t1) (h2 : Tells W 21 (.agg #[.slice go m cg, .slice mo mm cm]) e2 p2 t2) (c : ¬ e1 = 0) : Calls Tryz.prog 11 #[.agg #[.slice fo n cf, .slice no nn cn], .agg #[.slice go m cg, .slice mo mm cm]] W fun e w' => e = .returned (.int .i64 5) ∧ Gr W w' := by
 obtain ⟨A0, hA0, g0, b0⟩ := nw W (.cells #[.slice fo n cf, .slice no nn cn] 25)
 obtain ⟨A1, hA1, g1, b1⟩ := nw A0 (.cells #[.slice go m cg, .slice mo mm cm] 25)
 have gW : Gr W A1 := g0.tr g1
 have HG := hidM gW
 have HC1 := hidM (h1.gr gW A1 (Keeps.refl _ _))
 have HC2 : Hid (∀ u, Gr A1 u → u.cell? ⟨A0.heap.size, 0, none⟩ = some (.slice go m cg) ∧ u.cell? ⟨A0.heap.size, 1, none⟩ = some (.slice mo mm cm) ∧ Calls Tryz.prog 21 #[.agg #[.slice go m cg, .slice mo mm cm]] u fun e w' => ∃ vo vc, e = .returned (.agg #[.int .i64 e2, .slice vo p2.length vc, .int .i64 t2]) ∧ Gr u w' ∧ IntsAt w' vo p2) := fun u g => by
  obtain ⟨f0, f1⟩ := cell2 b1
  exact ⟨g.cell' f0 id, g.cell' f1 id, h2 u (gW.tr g)⟩
 obtain ⟨q0, q1⟩ := cell2 ((g1.block _ (lt_of_heap b0) id).trans b0)
 have hfl := fld52
 clear g0 b0 g1 b1 gW h1 h2
 have c1 : (e1 == 0) = false := by simp [c]
 go_enter Tryz.func11, Tryz.ntmps11
 go_wp2_with (go_at_call 21; refine HC1.out.mono ?_; rintro e w1 ⟨vo1, vc1, rfl, g1, -⟩; have HG2 := hidM (HG.out.tr g1); obtain ⟨f0, f1, hc4⟩ := HC2.out w1 g1; have HC4 := hidM hc4; clear g1 hc4)
 go_ret
 exact ⟨rfl, HG2.out⟩
theorem wrongSchemas11_2 (fo no go mo : Option Addr) (n cf nn cn m cg mm cm : Nat) (e1 e2 t1 t2 : Int) (p1 p2 : List Nat) (W : World) (h1 : Tells W 21 (.agg #[.slice fo n cf, .slice no nn cn]) e1 p1 t1) (h2 : Tells W 21 (.agg #[.slice go m cg, .slice mo mm cm]) e2 p2 t2) (c0 : e1 = 0) (c : ¬ e2 = 0) : Calls Tryz.prog 11 #[.agg #[.slice fo n cf, .slice no nn cn], .agg #[.slice go m cg, .slice mo mm cm]] W fun e w' => e = .returned (.int .i64 5) ∧ Gr W w' := by
 obtain ⟨A0, hA0, g0, b0⟩ := nw W (.cells #[.slice fo n cf, .slice no nn cn] 25)
 obtain ⟨A1, hA1, g1, b1⟩ := nw A0 (.cells #[.slice go m cg, .slice mo mm cm] 25)
 have gW : Gr W A1 := g0.tr g1
 have HG := hidM gW
 have HC1 := hidM (h1.gr gW A1 (Keeps.refl _ _))
 have HC2 : Hid (∀ u, Gr A1 u → u.cell? ⟨A0.heap.size, 0, none⟩ = some (.slice go m cg) ∧ u.cell? ⟨A0.heap.size, 1, none⟩ = some (.slice mo mm cm) ∧ Calls Tryz.prog 21 #[.agg #[.slice go m cg, .slice mo mm cm]] u fun e w' => ∃ vo vc, e = .returned (.agg #[.int .i64 e2, .slice vo p2.length vc, .int .i64 t2]) ∧ Gr u w' ∧ IntsAt w' vo p2) := fun u g => by
  obtain ⟨f0, f1⟩ := cell2 b1
  exact ⟨g.cell' f0 id, g.cell' f1 id, h2 u (gW.tr g)⟩
 obtain ⟨q0, q1⟩ := cell2 ((g1.block _ (lt_of_heap b0) id).trans b0)
 have hfl := fld52
 clear g0 b0 g1 b1 gW h1 h2
 subst c0
 have c2 : (e2 == 0) = false := by simp [c]
 go_enter Tryz.func11, Tryz.ntmps11
 go_wp2_with (first
  | (go_at_call 21; have _ := HG2; refine HC4.out.mono ?_; rintro e w2 ⟨vo2, vc2, rfl, g2, -⟩; have HG3 := hidM (HG2.out.tr g2); clear g2)
  | (go_at_call 21; refine HC1.out.mono ?_; rintro e w1 ⟨vo1, vc1, rfl, g1, -⟩; have HG2 := hidM (HG.out.tr g1); obtain ⟨f0, f1, hc4⟩ := HC2.out w1 g1; have HC4 := hidM hc4; clear g1 hc4))
 go_ret
 exact ⟨rfl, HG3.out⟩
theorem wrongSchemas11_0 (fo no go mo : Option Addr) (n cf nn cn m cg mm cm : Nat) (e1 e2 t1 t2 : Int) (p1 p2 : List Nat) (W : World) (h1 : Tells W 21 (.agg #[.slice fo n cf, .slice no nn cn]) e1 p1 t1) (h2 : Tells W 21 (.agg #[.slice go m cg, .slice mo mm cm]) e2 p2 t2) (c0 : e1 = 0) (c : e2 = 0) : Calls Tryz.prog 11 #[.agg #[.slice fo n cf, .slice no nn cn], .agg #[.slice go m cg, .slice mo mm cm]] W fun e w' => e = .returned (.int .i64 0) ∧ Gr W w' := by
 obtain ⟨A0, hA0, g0, b0⟩ := nw W (.cells #[.slice fo n cf, .slice no nn cn] 25)
 obtain ⟨A1, hA1, g1, b1⟩ := nw A0 (.cells #[.slice go m cg, .slice mo mm cm] 25)
 have gW : Gr W A1 := g0.tr g1
 have HG := hidM gW
 have HC1 := hidM (h1.gr gW A1 (Keeps.refl _ _))
 have HC2 : Hid (∀ u, Gr A1 u → u.cell? ⟨A0.heap.size, 0, none⟩ = some (.slice go m cg) ∧ u.cell? ⟨A0.heap.size, 1, none⟩ = some (.slice mo mm cm) ∧ Calls Tryz.prog 21 #[.agg #[.slice go m cg, .slice mo mm cm]] u fun e w' => ∃ vo vc, e = .returned (.agg #[.int .i64 e2, .slice vo p2.length vc, .int .i64 t2]) ∧ Gr u w' ∧ IntsAt w' vo p2) := fun u g => by
  obtain ⟨f0, f1⟩ := cell2 b1
  exact ⟨g.cell' f0 id, g.cell' f1 id, h2 u (gW.tr g)⟩
 obtain ⟨q0, q1⟩ := cell2 ((g1.block _ (lt_of_heap b0) id).trans b0)
 have hfl := fld52
 clear g0 b0 g1 b1 gW h1 h2
 subst c0
 subst c
 go_enter Tryz.func11, Tryz.ntmps11
 go_wp2_with (first
  | (go_at_call 21; have _ := HG2; refine HC4.out.mono ?_; rintro e w2 ⟨vo2, vc2, rfl, g2, -⟩; have HG3 := hidM (HG2.out.tr g2); clear g2)
  | (go_at_call 21; refine HC1.out.mono ?_; rintro e w1 ⟨vo1, vc1, rfl, g1, -⟩; have HG2 := hidM (HG.out.tr g1); obtain ⟨f0, f1, hc4⟩ := HC2.out w1 g1; have HC4 := hidM hc4; clear g1 hc4))
 go_ret
 exact ⟨rfl, HG3.out⟩
variable {nx : Bool}
open Go.Proofs.YthhpamhfnpacpaaGreatDoor.Ink (OwnRow)
def ndC (nx : Bool) (nu : Bool) (ao : Option Addr) (ca : Nat) (L N : Int) (bv : Value) : Array Value := #[.string (nmB nx), .bool nu, .int .i64 3, .int .i64 0, .int .i64 0, .int .i64 0, .slice ao 0 ca, .iface 249 (.agg #[.int .i64 1, .bool true]), .int .i64 L, .int .i64 N, .int .i64 0, bv, .slice none 0 0]
def dCo (L off : Int) (bv : Value) : Array Value := #[.int .i64 L, .int .i64 off, .int .i64 0, bv, .slice none 0 0, .slice none 0 0]
theorem bare45 (nu : Bool) (ao : Option Addr) (ca L N : Nat) (b : Value) (W : World) (hT : Tab W) : Calls Tryz.prog 111 #[.agg #[.string (nmB nx), .bool nu, .int .i64 3, .int .i64 0, .int .i64 0, .int .i64 0, .slice ao 0 ca], .agg (dCo L N b)] W fun e w' => ∃ q, e = .returned (.pointer (some ⟨q, 0, none⟩)) ∧ Gr W w' ∧ W.heap.size ≤ q ∧ w'.heap[q]? = some (.cells (ndC nx nu ao ca L N (.slice none 0 0)) 165) := by
 obtain ⟨A, hA⟩ := ex ((W.alloc (.cells #[.string (nmB nx), .bool nu, .int .i64 3, .int .i64 0, .int .i64 0, .int .i64 0, .slice ao 0 ca] 58)).alloc (.cells (dCo L N b) 68))
 have gA : Gr W A := by rw [← hA]; exact (gr_alloc W _).tr (gr_alloc _ _)
 have hb2 : A.heap[W.heap.size + 1]? = some (.cells (dCo L N b) 68) := by
  have e2 := heap_alloc_new (W.alloc (.cells #[.string (nmB nx), .bool nu, .int .i64 3, .int .i64 0, .int .i64 0, .int .i64 0, .slice ao 0 ca] 58)) (.cells (dCo L N b) 68)
  rw [show (W.alloc (.cells #[.string (nmB nx), .bool nu, .int .i64 3, .int .i64 0, .int .i64 0, .int .i64 0, .slice ao 0 ca] 58)).heap.size = W.heap.size + 1 by simp, hA] at e2
  exact e2
 have hb1 : A.heap[W.heap.size]? = some (.cells #[.string (nmB nx), .bool nu, .int .i64 3, .int .i64 0, .int .i64 0, .int .i64 0, .slice ao 0 ca] 58) := by
  have e1 := heap_alloc_new W (.cells #[.string (nmB nx), .bool nu, .int .i64 3, .int .i64 0, .int .i64 0, .int .i64 0, .slice ao 0 ca] 58)
  rw [← hA]
  exact ((gr_alloc _ _).block _ (lt_of_heap e1) id).trans e1
 have hS : ∀ u, Gr A u → u.cell? ⟨W.heap.size, 0, none⟩ = some (.string (nmB nx)) ∧ u.cell? ⟨W.heap.size, 1, none⟩ = some (.bool nu) ∧ u.cell? ⟨W.heap.size, 2, none⟩ = some (.int .i64 3) ∧ u.cell? ⟨W.heap.size, 3, none⟩ = some (.int .i64 0) ∧ u.cell? ⟨W.heap.size, 4, none⟩ = some (.int .i64 0) ∧ u.cell? ⟨W.heap.size, 5, none⟩ = some (.int .i64 0) ∧ u.cell? ⟨W.heap.size, 6, none⟩ = some (.slice ao 0 ca) ∧ u.cell? ⟨W.heap.size + 1, 0, none⟩ = some (.int .i64 L) ∧ u.cell? ⟨W.heap.size + 1, 1, none⟩ = some (.int .i64 N) ∧ u.cell? ⟨W.heap.size + 1, 2, none⟩ = some (.int .i64 0) := fun u g => by
  obtain ⟨a0, a1, a2, a3, a4, a5, a6⟩ := cell7 ((g.block _ (lt_of_heap hb1) id).trans hb1)
  obtain ⟨d0, d1, d2, -⟩ := cell6 ((g.block _ (lt_of_heap hb2) id).trans hb2)
  exact ⟨a0, a1, a2, a3, a4, a5, a6, d0, d1, d2⟩
 have HS := hidM hS
 have HS0 := hidM (hS A.drew gr_drew)
 have HG := hidM gA
 have HT := hidM (hT.gr gA)
 clear hT gA hb1 hb2 hS
 unfold dCo at hA ⊢
 go_enter Tryz.func111, Tryz.ntmps111
 go_wp2_with fail
 go_region_held3 (fun u => u.cell? ⟨W.heap.size, 0, none⟩ = some (.string (nmB nx)) ∧ u.cell? ⟨W.heap.size, 1, none⟩ = some (.bool nu) ∧ u.cell? ⟨W.heap.size, 2, none⟩ = some (.int .i64 3) ∧ u.cell? ⟨W.heap.size, 3, none⟩ = some (.int .i64 0) ∧ u.cell? ⟨W.heap.size, 4, none⟩ = some (.int .i64 0) ∧ u.cell? ⟨W.heap.size, 5, none⟩ = some (.int .i64 0) ∧ u.cell? ⟨W.heap.size, 6, none⟩ = some (.slice ao 0 ca) ∧ u.cell? ⟨W.heap.size + 1, 0, none⟩ = some (.int .i64 L) ∧ u.cell? ⟨W.heap.size + 1, 1, none⟩ = some (.int .i64 N) ∧ u.cell? ⟨W.heap.size + 1, 2, none⟩ = some (.int .i64 0)) (first | with_reducible exact HS0.out | with_reducible exact HS1.out | exact HS2.out _) ((go_at_call 123; refine (familyOf62 ao ca _ (HT.out.gr gr_drew)).mono ?_; rintro e w1 ⟨rfl, g1⟩; have HG1 : Hid (Gr A w1) := Keeps.trans gr_drew g1 (fun _ _ h => h); have HS1 := hidM (HS.out w1 HG1.out); have HS2 : Hid (∀ o, (w1.alloc o).cell? ⟨W.heap.size, 0, none⟩ = some (.string (nmB nx)) ∧ (w1.alloc o).cell? ⟨W.heap.size, 1, none⟩ = some (.bool nu) ∧ (w1.alloc o).cell? ⟨W.heap.size, 2, none⟩ = some (.int .i64 3) ∧ (w1.alloc o).cell? ⟨W.heap.size, 3, none⟩ = some (.int .i64 0) ∧ (w1.alloc o).cell? ⟨W.heap.size, 4, none⟩ = some (.int .i64 0) ∧ (w1.alloc o).cell? ⟨W.heap.size, 5, none⟩ = some (.int .i64 0) ∧ (w1.alloc o).cell? ⟨W.heap.size, 6, none⟩ = some (.slice ao 0 ca) ∧ (w1.alloc o).cell? ⟨W.heap.size + 1, 0, none⟩ = some (.int .i64 L) ∧ (w1.alloc o).cell? ⟨W.heap.size + 1, 1, none⟩ = some (.int .i64 N) ∧ (w1.alloc o).cell? ⟨W.heap.size + 1, 2, none⟩ = some (.int .i64 0)) := fun o => HS.out _ (HG1.out.alloc o); clear g1))
 go_wp2_with fail
 go_ret
 have h1 := HG.out.size
 have h2 := HG1.out.size
 exact ⟨_, rfl, (HG.out.tr HG1.out).alloc _, by omega, heap_alloc_new _ _⟩
theorem tooMany66 (r n c : Nat) (W : World) (h : ∀ k, k < n → ∃ (o : Option Addr) (l cc : Nat), W.cell? ⟨r, k, none⟩ = some (.slice o l cc) ∧ l ≤ 65536) (hn : n ≤ 1000) :
  Calls Tryz.prog 127 #[.slice (some ⟨r, 0, none⟩) n c] W fun e w' => e = .returned (.tuple #[.int .i64 0, .int .i64 0]) ∧ w' = W := by
 have H := hidM h
 clear h
 go_enter Tryz.func127, Tryz.ntmps127
 go_wp2_with fail
 go_loopw [8] (fun i wr => ∃ k : Nat, k ≤ n ∧ i = .int .i64 k ∧ wr = W) (fun i _ => n - (intOf i).toNat)
 case atStart => exact ⟨0, by omega, rfl, rfl⟩
 case round =>
  obtain ⟨k, hk, rfl, rfl⟩ := hrel
  by_cases hlt : k < n
  ·obtain ⟨o, l, cc, c1, hl⟩ := H.out k hlt
   have hl' : ¬ ((65536 : Int) < (l : Int)) := by omega
   go_wp2_with fail
   go_roundw
   case rel => exact ⟨k + 1, by omega, by go_num, trivial⟩
   case measure => simp [intOf]; omega
  obtain rfl : k = n := by omega
  go_wp2_with fail
  go_ret2
  exact ⟨rfl, rfl⟩
theorem results_tmp3' {fn : Func} {t u v : Tmp} (h : fn.results = #[.tmp t, .tmp u, .tmp v]) (tmps : Array Value) (P : Program) (w : World) :
  (results fn tmps).run P w = .ok (.tuple #[tmps.getD t undef, tmps.getD u undef, tmps.getD v undef]) w := by
 simp [results, h]
theorem shape91 (ao : Option Addr) (ca : Nat) (W : World) (hT : Tab W) : Calls Tryz.prog 145 #[.agg #[.int .i64 3, .int .i64 0, .int .i64 0, .int .i64 0, .slice ao 0 ca]] W fun e w' => e = .returned (.tuple #[.int .i64 2, .int .i64 0, .int .i64 0]) ∧ Gr W w' := by
 obtain ⟨A, hA, gA, hb⟩ := nw W (.cells #[.int .i64 3, .int .i64 0, .int .i64 0, .int .i64 0, .slice ao 0 ca] 56)
 have hS : ∀ u, Gr A u → u.cell? ⟨W.heap.size, 0, none⟩ = some (.int .i64 3) ∧ u.cell? ⟨W.heap.size, 4, none⟩ = some (.slice ao 0 ca) ∧ u.cell? ⟨0, 17, none⟩ = some (.int .i64 2) := fun u g => by
  obtain ⟨p0, -, -, -, p4⟩ := cell5 ((g.block _ (lt_of_heap hb) id).trans hb)
  exact ⟨p0, p4, ((hT.gr (gA.tr g)).2 3 (by decide)).c2⟩
 obtain ⟨e0, e1, e2, e3, e4⟩ := cell5 hb
 have HS := hidM hS
 have HG := hidM gA
 have HT := hidM (hT.gr gA)
 clear gA hb hS hT
 go_enter Tryz.func145, Tryz.ntmps145
 go_wp2_with (go_at_call 167; refine (typeMayBe83 ao ca _ HT.out).mono ?_; rintro e w1 ⟨rfl, g1⟩; have HG1 := hidM g1; have HS0 := hidM (HS.out w1.drew (g1.tr gr_drew)); clear g1 hA e0 e1 e2 e3 e4)
 go_region_held3 (fun u => u.cell? ⟨W.heap.size, 0, none⟩ = some (.int .i64 3) ∧ u.cell? ⟨W.heap.size, 4, none⟩ = some (.slice ao 0 ca) ∧ u.cell? ⟨0, 17, none⟩ = some (.int .i64 2)) (with_reducible exact HS0.out) (fail)
 obtain ⟨f0, f4, -⟩ := HS0.out
 go_wp2_with fail
 (try simp only [Exit.inBlock, Exit.then])
 refine bodyPost_ret (results_tmp3' rfl _ _ _) rfl ?_
 exact ⟨rfl, (HG.out.tr HG1.out).tr gr_drew⟩
theorem sum92 (z c a b : Nat) (W : World) (h0 : W.cell? ⟨z, 0, none⟩ = some (.int .i64 a)) (h1 : W.cell? ⟨z, 1, none⟩ = some (.int .i64 b)) (ha : a ≤ 1000000) (hb : b ≤ 1000000) :
  Calls Tryz.prog 146 #[.slice (some ⟨z, 0, none⟩) 2 c] W fun e w' => e = .returned (.tuple #[.int .i64 ((a + b : Nat) : Int), .bool true]) ∧ w' = W := by
 have H0 := hidM h0
 have H1 := hidM h1
 clear h0 h1
 go_enter Tryz.func146, Tryz.ntmps146
 go_wp2_with fail
 go_loopw [9, 4] (fun i s wr => ∃ k : Nat, k ≤ 2 ∧ i = .int .i64 k ∧ s = .int .i64 (if k = 0 then ((0 : Nat) : Int) else if k = 1 then (a : Int) else ((a + b : Nat) : Int)) ∧ wr = W) (fun i _ _ => 2 - (intOf i).toNat)
 case atStart => exact ⟨0, by omega, rfl, rfl, rfl⟩
 case round =>
  obtain ⟨k, hk, rfl, rfl, rfl⟩ := hrel
  have hk3 : k = 0 ∨ k = 1 ∨ k = 2 := by omega
  rcases hk3 with rfl | rfl | rfl
  ·have c0 := H0.out
   have w0 : ¬ ((a : Int) < 0) := by omega
   have w1 : ¬ ((9223372036854775807 : Int) < (a : Int)) := by omega
   simp only [if_pos rfl]
   go_wp2_with fail
   go_roundw
   case rel => exact ⟨1, by omega, by go_num, by simp; try (rw [IntKind.wrap_i64]; omega), trivial⟩
   case measure => simp [intOf]
  ·have c0 := H1.out
   have w0 : ¬ ((b : Int) < 0) := by omega
   have wr1 : IntKind.i64.wrap (9223372036854775807 - (a : Int)) = 9223372036854775807 - (a : Int) := by rw [IntKind.wrap_i64]; omega
   have w1 : ¬ ((9223372036854775807 : Int) - (a : Int) < (b : Int)) := by omega
   have wr2 : IntKind.i64.wrap ((a : Int) + (b : Int)) = ((a + b : Nat) : Int) := by rw [IntKind.wrap_i64]; omega
   go_wp2_with fail
   go_roundw
   case rel => exact ⟨2, by omega, by go_num, by simp, trivial⟩
   case measure => simp [intOf]
  go_wp2_with fail
  go_ret2
  exact ⟨by simp, rfl⟩
theorem wrongShape64 (ao : Option Addr) (ca L N : Nat) (bo : Option Addr) (bc : Nat) (W : World) (hT : Tab W) : Calls Tryz.prog 125 #[.agg #[.int .i64 3, .int .i64 0, .int .i64 0, .int .i64 0, .slice ao 0 ca], .agg (dCo L N (.slice bo 2 bc))] W fun e w' => e = .returned (.int .i64 0) ∧ Gr W w' := by
 obtain ⟨A, hA⟩ := ex ((W.alloc (.cells #[.int .i64 3, .int .i64 0, .int .i64 0, .int .i64 0, .slice ao 0 ca] 56)).alloc (.cells (dCo L N (.slice bo 2 bc)) 68))
 have gA : Gr W A := by rw [← hA]; exact (gr_alloc W _).tr (gr_alloc _ _)
 have hb2 : A.heap[W.heap.size + 1]? = some (.cells (dCo L N (.slice bo 2 bc)) 68) := by
  have e2 := heap_alloc_new (W.alloc (.cells #[.int .i64 3, .int .i64 0, .int .i64 0, .int .i64 0, .slice ao 0 ca] 56)) (.cells (dCo L N (.slice bo 2 bc)) 68)
  rw [show (W.alloc (.cells #[.int .i64 3, .int .i64 0, .int .i64 0, .int .i64 0, .slice ao 0 ca] 56)).heap.size = W.heap.size + 1 by simp, hA] at e2
  exact e2
 have hb1 : A.heap[W.heap.size]? = some (.cells #[.int .i64 3, .int .i64 0, .int .i64 0, .int .i64 0, .slice ao 0 ca] 56) := by
  have e1 := heap_alloc_new W (.cells #[.int .i64 3, .int .i64 0, .int .i64 0, .int .i64 0, .slice ao 0 ca] 56)
  rw [← hA]
  exact ((gr_alloc _ _).block _ (lt_of_heap e1) id).trans e1
 obtain ⟨e0, e1, e2, e3, e4⟩ := cell5 hb1
 have HB2 := hidM hb2
 have HG := hidM gA
 have HT := hidM (hT.gr gA)
 clear gA hb1 hb2 hT
 unfold dCo at hA ⊢
 go_enter Tryz.func125, Tryz.ntmps125
 go_wp2_with (go_at_call 145; refine (shape91 ao ca _ HT.out).mono ?_; rintro e w1 ⟨rfl, g1⟩; have HG1 := hidM g1; obtain ⟨d0, d1, d2, d3, d4, d5⟩ := cell6 ((g1.block _ (lt_of_heap HB2.out) id).trans HB2.out); clear g1 hA e0 e1 e2 e3 e4)
 go_ret
 exact ⟨rfl, HG.out.tr HG1.out⟩
theorem cellN {W : World} {q : Nat} {nu : Bool} {ao : Option Addr} {ca : Nat} {L N : Int} {bv : Value} (h : W.heap[q]? = some (.cells (ndC nx nu ao ca L N bv) 165)) : W.cell? ⟨q, 8, none⟩ = some (.int .i64 L) ∧ W.cell? ⟨q, 9, none⟩ = some (.int .i64 N) ∧ W.cell? ⟨q, 10, none⟩ = some (.int .i64 0) := by
 refine ⟨?_, ?_, ?_⟩ <;> simp [World.cell?, h, ndC]
theorem wrongNumbers65 (q : Nat) (nu : Bool) (ao : Option Addr) (ca L N : Nat) (bv : Value) (W : World) (h : W.heap[q]? = some (.cells (ndC nx nu ao ca L N bv) 165)) (hL : L ≤ 2000) (hN : N ≤ 2000) : Calls Tryz.prog 126 #[.pointer (some ⟨q, 0, none⟩)] W fun e w' => e = .returned (.int .i64 0) ∧ Gr W w' := by
 have hS : ∀ u, Gr W u → u.cell? ⟨q, 8, none⟩ = some (.int .i64 L) ∧ u.cell? ⟨q, 9, none⟩ = some (.int .i64 N) ∧ u.cell? ⟨q, 10, none⟩ = some (.int .i64 0) := fun u g => cellN ((g.block _ (lt_of_heap h) id).trans h)
 have HS0 := hidM (hS W.drew gr_drew)
 have b1 : ¬ ((L : Int) < 0) := by omega
 have b2 : ¬ ((N : Int) < 0) := by omega
 have b4 : ¬ ((4096 : Int) < ((L + N : Nat) : Int)) := by omega
 have gdd : Gr W W.drew.drew := Keeps.trans gr_drew gr_drew (fun _ _ h => h)
 have HS1 := hidM (hS W.drew.drew gdd)
 have HS2 : Hid (∀ o, (W.drew.drew.alloc o).cell? ⟨q, 8, none⟩ = some (.int .i64 L) ∧ (W.drew.drew.alloc o).cell? ⟨q, 9, none⟩ = some (.int .i64 N) ∧ (W.drew.drew.alloc o).cell? ⟨q, 10, none⟩ = some (.int .i64 0)) := fun o => hS _ (gdd.alloc o)
 have HGd := hidM gdd
 have HC : Hid (Calls Tryz.prog 146 #[.slice (some ⟨W.drew.drew.heap.size, 0, none⟩) 2 2] (W.drew.drew.alloc (.cells #[.int .i64 L, .int .i64 N] 3)) fun e w' => e = .returned (.tuple #[.int .i64 ((L + N : Nat) : Int), .bool true]) ∧ w' = W.drew.drew.alloc (.cells #[.int .i64 L, .int .i64 N] 3)) := by
  have hh := heap_alloc_new W.drew.drew (.cells #[.int .i64 L, .int .i64 N] 3)
  obtain ⟨z0, z1⟩ := cell2 hh
  have h := sum92 W.drew.drew.heap.size 2 L N _ z0 z1 (by omega) (by omega)
  exact h
 clear h hS gdd
 go_enter Tryz.func126, Tryz.ntmps126
 go_wp2_with fail
 go_region_held3 (fun u => u.cell? ⟨q, 8, none⟩ = some (.int .i64 L) ∧ u.cell? ⟨q, 9, none⟩ = some (.int .i64 N) ∧ u.cell? ⟨q, 10, none⟩ = some (.int .i64 0)) (with_reducible exact HS0.out) (fail)
 go_wp2_with fail
 go_region_held3 (fun u => u.cell? ⟨q, 8, none⟩ = some (.int .i64 L) ∧ u.cell? ⟨q, 9, none⟩ = some (.int .i64 N) ∧ u.cell? ⟨q, 10, none⟩ = some (.int .i64 0)) (first | with_reducible exact HS1.out | exact HS2.out _) ((go_at_call 146; refine HC.out.mono ?_; rintro e w2 ⟨rfl, rfl⟩))
 go_wp2_with fail
 go_ret
 exact ⟨rfl, HGd.out.alloc _⟩
theorem kind118 (q : Nat) (nu : Bool) (ao : Option Addr) (ca : Nat) (L N : Int) (bv : Value) (W : World) (h : W.heap[q]? = some (.cells (ndC nx nu ao ca L N bv) 165)) : Calls Tryz.prog 170 #[.pointer (some ⟨q, 0, none⟩)] W fun e w' => e = .returned (.int .i64 3) ∧ w' = W := by
 have c2 : W.cell? ⟨q, 2, none⟩ = some (.int .i64 3) := by simp [World.cell?, h, ndC]
 clear h
 go_enter Tryz.func170, Tryz.ntmps170
 go_wp2_with fail
 go_ret
 exact ⟨rfl, rfl⟩
theorem masked97 (q : Nat) (nu : Bool) (ao : Option Addr) (ca : Nat) (L N : Int) (bv : Value) (W : World) (h : W.heap[q]? = some (.cells (ndC nx nu ao ca L N bv) 165)) : Calls Tryz.prog 151 #[.pointer (some ⟨q, 0, none⟩)] W fun e w' => e = .returned (.bool true) ∧ w' = W := by
 have HC := hidM (kind118 q nu ao ca L N bv W h)
 clear h
 go_enter Tryz.func151, Tryz.ntmps151
 go_wp2_with (go_at_call 170; refine HC.out.mono ?_; rintro e w2 ⟨rfl, rfl⟩)
 go_ret
 exact ⟨rfl, rfl⟩
theorem end96 (q : Nat) (nu : Bool) (ao : Option Addr) (ca L N : Nat) (bv : Value) (W : World) (h : W.heap[q]? = some (.cells (ndC nx nu ao ca L N bv) 165)) (hL : L ≤ 2000) (hN : N ≤ 2000) : Calls Tryz.prog 150 #[.pointer (some ⟨q, 0, none⟩)] W fun e w' => e = .returned (.int .i64 ((N : Int) + (L : Int))) ∧ w' = W.drew := by
 obtain ⟨a1, a2, a3⟩ := cellN h
 have HS0 : Hid (W.drew.cell? ⟨q, 8, none⟩ = some (.int .i64 L) ∧ W.drew.cell? ⟨q, 9, none⟩ = some (.int .i64 N)) := ⟨a1, a2⟩
 have hw : IntKind.i64.wrap ((N : Int) + (L : Int)) = (N : Int) + (L : Int) := by rw [IntKind.wrap_i64]; omega
 clear h a1 a2 a3
 go_enter Tryz.func150, Tryz.ntmps150
 go_wp2_with fail
 go_region_held3 (fun u => u.cell? ⟨q, 8, none⟩ = some (.int .i64 L) ∧ u.cell? ⟨q, 9, none⟩ = some (.int .i64 N)) (with_reducible exact HS0.out) (fail)
 go_wp2_with fail
 go_ret
 exact ⟨rfl, rfl⟩
theorem results_cell236 {fn : Func} {t : Tmp} {tmps : Array Value} {g : Nat} {cs : Array Value} {w : World} (h : fn.results = #[.cell t 258]) (ht : tmps.getD t undef = .pointer (some ⟨g, 0, none⟩)) (hg : w.heap[g]? = some (.cells cs 258 (0, 0))) (hi : (Tryz.prog.info? 258).map (·.size) = some cs.size) :
  (results fn tmps).run Tryz.prog w = .ok (.agg cs) w := by
 have hl := run_loadVar_row (P := Tryz.prog) w g 258 258 cs (0, 0) _ hg Tryz.underlying258 rfl hi
 unfold results
 rw [h]
 simp only [Array.mapM_eq_mapM_toList, List.mapM_cons, List.mapM_nil, ht]
 simp [asAddr, hl]
theorem viewOf93 (vo : Option Addr) (n vc : Nat) (W : World) : Calls Tryz.prog 147 #[.slice vo n vc] W fun e w' => e = .returned (.agg #[.slice vo n vc, .int .i64 0, .pointer none]) ∧ Gr W w' := by
 have HB := hidM (heap_alloc_new W (.cells #[.slice vo n vc, .int .i64 0, .pointer none] 258))
 go_enter Tryz.func147, Tryz.ntmps147
 go_wp2_with fail
 (try simp only [Exit.inBlock, Exit.then])
 refine bodyPost_ret (results_cell236 rfl rfl (by with_reducible exact HB.out) (by kernel_rfl)) rfl ?_
 exact ⟨rfl, gr_alloc _ _⟩
theorem len100 (vo : Option Addr) (n vc : Nat) (W : World) : Calls Tryz.prog 154 #[.agg #[.slice vo n vc, .int .i64 0, .pointer none]] W fun e w' => e = .returned (.int .i64 n) ∧ Gr W w' := by
 go_enter Tryz.func154, Tryz.ntmps154
 go_wp2_with fail
 go_ret
 exact ⟨rfl, gr_alloc _ _⟩
theorem grow124 (W : World) : Calls Tryz.prog 183 #[.slice none 0 0, .int .i64 0] W fun e w' => e = .returned (.slice none 0 0) ∧ w' = W := by
 go_enter Tryz.func183, Tryz.ntmps183
 go_wp2_with fail
 go_ret
 exact ⟨rfl, rfl⟩
theorem parts116 (ao : Option Addr) (ca : Nat) (W : World) (hT : Tab W) (h37 : ∀ u, Gr W u → Calls Tryz.prog 81 #[.slice ao 0 ca] u fun e w' => ∃ vo vc, e = .returned (.slice vo 0 vc) ∧ Gr u w') : Calls Tryz.prog 168 #[.agg #[.int .i64 3, .int .i64 0, .int .i64 0, .int .i64 0, .slice ao 0 ca]] W fun e w' => ∃ vo vc, e = .returned (.slice vo 0 vc) ∧ Gr W w' := by
 obtain ⟨A, hA, gA, hb⟩ := nw W (.cells #[.int .i64 3, .int .i64 0, .int .i64 0, .int .i64 0, .slice ao 0 ca] 56)
 obtain ⟨e0, e1, e2, e3, e4⟩ := cell5 hb
 have HB := hidM hb
 have HG := hidM gA
 have HT := hidM (hT.gr gA)
 have H37 := hidM h37
 clear gA hb hT h37
 go_enter Tryz.func168, Tryz.ntmps168
 go_wp2_with (first
  | (go_at_call 167; refine (typeMayBe83 ao ca _ HT.out).mono ?_; rintro e w1 ⟨rfl, g1⟩; have HG1 := hidM (HG.out.tr g1); clear hA e0 e1 e2 e3 e4; obtain ⟨e0, e1, e2, e3, e4⟩ := cell5 ((g1.block _ (lt_of_heap HB.out) id).trans HB.out); have HB1 := hidM ((g1.block _ (lt_of_heap HB.out) id).trans HB.out); clear g1)
  | (go_at_call 81; refine (H37.out _ HG1.out).mono ?_; rintro e w2 ⟨vo, vc, rfl, g2⟩; have HG2 := hidM (HG1.out.tr g2); clear e0 e1 e2 e3 e4; obtain ⟨e0, e1, e2, e3, e4⟩ := cell5 ((g2.block _ (lt_of_heap HB1.out) id).trans HB1.out); clear g2))
 go_ret
 exact ⟨vo, vc, rfl, HG2.out⟩
theorem partFields94 (ao : Option Addr) (ca : Nat) (W : World) (hT : Tab W) (h37 : ∀ u, Gr W u → Calls Tryz.prog 81 #[.slice ao 0 ca] u fun e w' => ∃ vo vc, e = .returned (.slice vo 0 vc) ∧ Gr u w') : Calls Tryz.prog 148 #[.agg #[.int .i64 3, .int .i64 0, .int .i64 0, .int .i64 0, .slice ao 0 ca]] W fun e w' => ∃ vo vc, e = .returned (.slice vo 0 vc) ∧ Gr W w' := by
 obtain ⟨A, hA, gA, hb⟩ := nw W (.cells #[.int .i64 3, .int .i64 0, .int .i64 0, .int .i64 0, .slice ao 0 ca] 56)
 obtain ⟨e0, e1, e2, e3, e4⟩ := cell5 hb
 have HG := hidM gA
 have HC := hidM (parts116 ao ca A (hT.gr gA) (fun u g => h37 u (gA.tr g)))
 clear gA hb hT h37
 go_enter Tryz.func148, Tryz.ntmps148
 go_wp2_with (go_at_call 168; refine HC.out.mono ?_; rintro e w2 ⟨vo, vc, rfl, g2⟩; have HG2 := hidM (HG.out.tr g2); clear g2)
 go_ret
 exact ⟨vo, vc, rfl, HG2.out⟩
theorem copied37 (ao : Option Addr) (ca : Nat) (W : World) : Calls Tryz.prog 81 #[.slice ao 0 ca] W fun e w' => ∃ vo vc, e = .returned (.slice vo 0 vc) ∧ Gr W w' := by
 refine (Kd.copied_any 0 (fun _ => False) W ao ca [] rfl (fun _ h => h.elim)).mono ?_
 rintro e w' ⟨vo, vc, he, hq⟩
 exact ⟨vo, vc, he, hq.1⟩
theorem info29 : (Tryz.prog.info? 68).map (fun i => (i.zero, i.size, i.bytes)) = some (some (.agg (dCo 0 0 (.slice none 0 0))), 6, 96) := by kernel_rfl
theorem cz31 : (Value.agg (dCo 0 0 (.slice none 0 0))).cells.size = 6 := by kernel_rfl
theorem concat117 (z c : Nat) (W : World) (h0 : W.cell? ⟨z, 0, none⟩ = some (.slice none 0 0)) (h1 : W.cell? ⟨z, 1, none⟩ = some (.slice none 0 0)) :
  Calls Tryz.prog 169 #[.slice (some ⟨z, 0, none⟩) 2 c] W fun e w' => ∃ uo uc, e = .returned (.slice uo 0 uc) ∧ Gr W w' := by
 have H : Hid (∀ k, k < 2 → W.cell? ⟨z, k, none⟩ = some (.slice none 0 0)) := fun k hk => by
  have : k = 0 ∨ k = 1 := by omega
  rcases this with rfl | rfl
  ·exact h0
  exact h1
 clear h0 h1
 go_enter Tryz.func169, Tryz.ntmps169
 go_wp2_with fail
 go_loopw [11, 3] (fun i s wr => ∃ k : Nat, k ≤ 2 ∧ i = .int .i64 k ∧ s = .int .i64 0 ∧ wr = W) (fun i _ _ => 2 - (intOf i).toNat)
 case atStart => exact ⟨0, by omega, rfl, rfl, rfl⟩
 case round =>
  obtain ⟨k, hk, rfl, rfl, rfl⟩ := hrel
  by_cases hlt : k < 2
  ·have c1 := H.out k hlt
   go_wp2_with fail
   go_roundw
   case rel => exact ⟨k + 1, by omega, by go_num, by simp, trivial⟩
   case measure => simp [intOf]; omega
  obtain rfl : k = 2 := by omega
  go_wp2_with (go_at_call 183; refine (grow124 _).mono ?_; rintro e w2 ⟨rfl, rfl⟩)
  go_loopw [27, 6] (fun i s wr => ∃ (k : Nat) (uo : Option Addr) (uc : Nat), k ≤ 2 ∧ i = .int .i64 k ∧ s = .slice uo 0 uc ∧ Hid (wr.ownsRow 0 68 6 (.slice uo 0 uc) 0 [] ∧ Gr w2 wr ∧ ∀ g, (Value.slice uo 0 uc).ownBlock = some g → w2.heap.size ≤ g)) (fun i _ _ => 2 - (intOf i).toNat)
  case atStart => exact ⟨0, none, 0, by omega, rfl, rfl, ⟨rfl, .inl ⟨rfl, rfl⟩⟩, Keeps.refl _ _, fun g e => by simp [Value.ownBlock] at e⟩
  case round =>
   obtain ⟨k, uo, uc, hk, rfl, rfl, HI⟩ := hrel
   obtain ⟨ho, hg, hl⟩ := HI.out
   have HO := hidM ho
   have HG := hidM hg
   have HL := hidM hl
   clear ho hg hl HI
   by_cases hlt : k < 2
   ·have c1 := HG.out.cell' (H.out k hlt) id
    go_wp2_with (at_builtin; refine Hid.out ?_)
    unfold Hid
    refine wpList_append_anyN (P := Tryz.prog) wr rfl (.tmp 31) (.tmp 32) 26 26 rfl 68 (.agg (dCo 0 0 (.slice none 0 0))) 6 96 Tryz.underlying26 info29 cz31 (.slice uo 0 uc) 0 [] rfl HO.out (.slice none 0 0) 0 [] rfl (Src.ofNil (w := wr) Tryz.underlying26 0) (by omega) (by omega) ?_
    intro v' w3 ha1 ha2 ha3
    obtain ⟨ko, kc, rfl⟩ := own_formN ha1
    have HN : Hid (w3.ownsRow 0 68 6 (.slice ko 0 kc) 0 [] ∧ Gr w2 w3 ∧ ∀ g, (Value.slice ko 0 kc).ownBlock = some g → w2.heap.size ≤ g) := by
     refine ⟨ha1, HG.out.trans (Keeps.ofGrown ha2) (fun j hj e => ?_), fun g e => ?_⟩
     ·have := HL.out j e
      omega
     rcases ha3 with e2 | e2
     ·exact HL.out g (e2 ▸ e)
     exact Nat.le_trans HG.out.size (e2 g e)
    clear ha1 ha2 ha3 c1
    go_wp2_with fail
    go_roundw
    case rel => exact ⟨k + 1, ko, kc, by omega, by go_num, rfl, HN⟩
    case measure => simp [intOf]; omega
   obtain rfl : k = 2 := by omega
   go_wp2_with fail
   go_ret
   exact ⟨uo, uc, rfl, HG.out⟩
theorem info236 : (Tryz.prog.info? 258).map (fun i => (i.zero, i.size, i.bytes)) = some (some (.agg #[.slice none 0 0, .int .i64 0, .pointer none]), 3, 40) := by kernel_rfl
theorem cellB {W : World} {q : Nat} {nu : Bool} {ao : Option Addr} {ca : Nat} {L N : Int} {bv : Value} (h : W.heap[q]? = some (.cells (ndC nx nu ao ca L N bv) 165)) : W.cell? ⟨q, 11, none⟩ = some bv := by
 simp [World.cell?, h, ndC]
theorem partData95 (L N : Nat) (b : Value) (W : World) : Calls Tryz.prog 149 #[.agg (dCo L N b)] W fun e w' => ∃ uo uc, e = .returned (.slice uo 0 uc) ∧ Gr W w' := by
 obtain ⟨A, hA⟩ := ex (W.alloc (.cells (dCo L N b) 68))
 have gA := gr_al hA
 have hb : A.heap[W.heap.size]? = some (.cells (dCo L N b) 68) := by rw [← hA]; exact heap_alloc_new W _
 obtain ⟨d0, d1, d2, d3, d4, d5⟩ := cell6 hb
 obtain ⟨B, hB, gB, hb2⟩ := nw A (.cells #[.slice none 0 0, .slice none 0 0] 26)
 obtain ⟨z0, z1⟩ := cell2 hb2
 have HC := hidM (concat117 A.heap.size 2 B z0 z1)
 have HG := hidM (gA.tr gB)
 clear gA hb gB hb2 z0 z1
 unfold dCo at hA ⊢
 go_enter Tryz.func149, Tryz.ntmps149
 go_wp2_with (go_at_call 169; refine HC.out.mono ?_; rintro e w2 ⟨uo, uc, rfl, g2⟩; have HG2 := hidM (HG.out.tr g2); clear g2)
 go_ret
 exact ⟨uo, uc, rfl, HG2.out⟩
def FillI (nx : Bool) (A wr : World) (q : Nat) (nu : Bool) (ao : Option Addr) (ca : Nat) (L N : Int) (vs : List Value) (k : Nat) (ro : Option Addr) (rc : Nat) : Prop :=
 Keeps A wr (fun z => z = q) ∧ wr.heap[q]? = some (.cells (ndC nx nu ao ca L N (.slice ro k rc)) 165) ∧ wr.ownsRow 0 258 3 (.slice ro k rc) k (vs.take (3 * k)) ∧ ∀ g, (Value.slice ro k rc).ownBlock = some g → A.heap.size ≤ g
theorem cellT {W : World} {q : Nat} {nu : Bool} {ao : Option Addr} {ca : Nat} {L N : Int} {bv : Value} (h : W.heap[q]? = some (.cells (ndC nx nu ao ca L N bv) 165)) : W.cell? ⟨q, 2, none⟩ = some (.int .i64 3) ∧ W.cell? ⟨q, 3, none⟩ = some (.int .i64 0) ∧ W.cell? ⟨q, 4, none⟩ = some (.int .i64 0) ∧ W.cell? ⟨q, 5, none⟩ = some (.int .i64 0) ∧ W.cell? ⟨q, 6, none⟩ = some (.slice ao 0 ca) := by
 refine ⟨?_, ?_, ?_, ?_, ?_⟩ <;> simp [World.cell?, h, ndC]
theorem FillI.gr {A wr u : World} {q : Nat} {nu : Bool} {ao : Option Addr} {ca : Nat} {L N : Int} {vs : List Value} {k : Nat} {ro : Option Addr} {rc : Nat} (h : FillI nx A wr q nu ao ca L N vs k ro rc) (g : Gr wr u) : FillI nx A u q nu ao ca L N vs k ro rc :=
 ⟨h.1.tr (g.mono fun _ _ h => h.elim), (g.block q (lt_of_heap h.2.1) id).trans h.2.1, row_kp h.2.2.1 fun j e => g.block j (own_lt h.2.2.1 j e) id, h.2.2.2⟩
theorem FillI.base {W A wr : World} {q : Nat} {nu : Bool} {ao : Option Addr} {ca : Nat} {L N : Int} {vs : List Value} {k : Nat} {ro : Option Addr} {rc : Nat} (h : FillI nx A wr q nu ao ca L N vs k ro rc) (g : Gr W A) : FillI nx W wr q nu ao ca L N vs k ro rc :=
 ⟨(g.mono fun _ _ h => h.elim).tr h.1, h.2.1, h.2.2.1, fun j e => Nat.le_trans g.size (h.2.2.2 j e)⟩
theorem fill_step {A wr w1 A2 : World} {q : Nat} {nu : Bool} {ao : Option Addr} {ca : Nat} {L N : Int} {vs : List Value} {k : Nat} {ro : Option Addr} {rc : Nat} {x : Value} (hI : FillI nx A wr q nu ao ca L N vs k ro rc) (hq : q < A.heap.size) (g1 : Gr wr w1) (hA2 : w1.alloc (.cells #[x, .int .i64 0, .pointer none] 258) = A2) (hx : x.oneCell' = true) (hv : vs.take (3 * (k + 1)) = vs.take (3 * k) ++ [x, .int .i64 0, .pointer none]) :
  Hid (A2.ownsRow 0 258 3 (.slice ro k rc) k (vs.take (3 * k))) ∧
  Hid (Src Tryz.prog 3 162 (.slice (some ⟨w1.heap.size, 0, none⟩) 1 1) 1 [x, .int .i64 0, .pointer none] A2) ∧
  Hid (∀ w7, A2.grownBy w7 (Value.slice ro k rc).ownBlock → w7.heap[q]? = some (.cells (ndC nx nu ao ca L N (.slice ro k rc)) 165)) ∧
  Hid (∀ uo uc w7, w7.ownsRow 0 258 3 (.slice uo (k + 1) uc) (k + 1) (vs.take (3 * k) ++ [x, .int .i64 0, .pointer none]) → A2.grownBy w7 (Value.slice ro k rc).ownBlock → ((Value.slice uo (k + 1) uc).ownBlock = (Value.slice ro k rc).ownBlock ∨ ∀ g, (Value.slice uo (k + 1) uc).ownBlock = some g → A2.heap.size ≤ g) → FillI nx A (w7.setCell ⟨q, 11, none⟩ (.slice uo (k + 1) uc)) q nu ao ca L N vs (k + 1) uo uc) ∧
  w1.cell? ⟨q, 11, none⟩ = some (.slice ro k rc) ∧ A2.cell? ⟨q, 11, none⟩ = some (.slice ro k rc) := by
 obtain ⟨hk, hn, ho, hl⟩ := hI
 have gA2 := gr_al hA2
 have g2 : Gr wr A2 := g1.tr gA2
 have hn1 := (g1.block q (lt_of_heap hn) id).trans hn
 have hn2 := (g2.block q (lt_of_heap hn) id).trans hn
 have hnew : A2.heap[w1.heap.size]? = some (.cells #[x, .int .i64 0, .pointer none] 258) := by rw [← hA2]; exact heap_alloc_new w1 _
 have hne : (Value.slice ro k rc).ownBlock ≠ some q := own_ne hn ho (by decide)
 have hAt : ∀ w7, A2.grownBy w7 (Value.slice ro k rc).ownBlock → w7.heap[q]? = some (.cells (ndC nx nu ao ca L N (.slice ro k rc)) 165) := fun w7 h => ((Keeps.ofGrown h).block q (lt_of_heap hn2) (fun e => hne e)).trans hn2
 refine ⟨row_kp ho fun g e => g2.block g (own_lt ho g e) id, ?_, hAt, ?_, cellB hn1, cellB hn2⟩
 ·refine Src.ofSlice (w := A2) Tryz.underlying162 ⟨w1.heap.size, 0, none⟩ 1 1 [x, .int .i64 0, .pointer none] rfl (fun j v hj => ?_) (fun v hv => ?_)
  ·rw [Addr.add_lit, Nat.zero_add]
   match j, hj with
   | 0, hj => cases hj; simp [World.cell?, hnew]
   | 1, hj => cases hj; simp [World.cell?, hnew]
   | 2, hj => cases hj; simp [World.cell?, hnew]
   | j + 3, hj => simp at hj
  simp at hv
  rcases hv with rfl | rfl | rfl
  ·exact hx
  ·rfl
  rfl
 intro uo uc w7 h1 h2 h3
 have hm7 := hAt w7 h2
 have hk7 : Keeps A w7 (fun z => z = q) := (hk.tr (g2.mono fun _ _ h => h.elim)).trans (Keeps.ofGrown h2) (fun j hj e => by have := hl j e; omega)
 refine ⟨hk7.setCell (p := ⟨q, 11, none⟩) (fun _ => rfl) _, ?_, ?_, fun g e => ?_⟩
 ·rw [heap_setCell_same w7 q 11 _ _ _ hm7]
  simp [ndC]
 ·rw [hv]
  exact row_kp h1 fun g e => heap_setCell_other _ _ _ _ (fun e' => own_ne hm7 h1 (by decide) (by rw [e, e']))
 rcases h3 with e2 | e2
 ·exact hl g (e2 ▸ e)
 exact Nat.le_trans hk.size (Nat.le_trans g2.size (e2 g e))
theorem fill67 (c q qb bc : Nat) (vb : Nat → Option Addr) (vn vc : Nat → Nat) (nu : Bool) (ao : Option Addr) (ca L N : Nat) (W : World) (hq : W.heap[q]? = some (.cells (ndC nx nu ao ca L N (.slice none 0 0)) 165)) (hb : ∀ k, k < 2 → W.cell? ⟨qb, k, none⟩ = some (.slice (vb k) (vn k) (vc k))) (hqb : qb ≠ q) (hT : Tab W) (hqT : ∀ u, Keeps W u (fun z => z = q) → Tab u) :
  Calls Tryz.prog 128 #[.pointer (some ⟨c, 0, none⟩), .pointer (some ⟨q, 0, none⟩), .agg (dCo L N (.slice (some ⟨qb, 0, none⟩) 2 bc))] W fun e w' => ∃ ro rc, e = .returned (.tuple #[]) ∧ FillI nx W w' q nu ao ca L N [.slice (vb 0) (vn 0) (vc 0), .int .i64 0, .pointer none, .slice (vb 1) (vn 1) (vc 1), .int .i64 0, .pointer none] 2 ro rc := by
 obtain ⟨vs, hvs⟩ := ex ([Value.slice (vb 0) (vn 0) (vc 0), .int .i64 0, .pointer none, .slice (vb 1) (vn 1) (vc 1), .int .i64 0, .pointer none])
 rw [hvs]
 have HV : Hid (∀ k, k < 2 → vs.take (3 * (k + 1)) = vs.take (3 * k) ++ [.slice (vb k) (vn k) (vc k), .int .i64 0, .pointer none]) := fun k hk => by
  subst hvs
  have : k = 0 ∨ k = 1 := by omega
  rcases this with rfl | rfl <;> rfl
 obtain ⟨A, hA⟩ := ex (W.alloc (.cells (dCo L N (.slice (some ⟨qb, 0, none⟩) 2 bc)) 68))
 have gA := gr_al hA
 have hd : A.heap[W.heap.size]? = some (.cells (dCo L N (.slice (some ⟨qb, 0, none⟩) 2 bc)) 68) := by rw [← hA]; exact heap_alloc_new W _
 have hqA := (gA.block q (lt_of_heap hq) id).trans hq
 obtain ⟨d0, d1, d2, d3, d4, d5⟩ := cell6 hd
 have HI0 : Hid (FillI nx A A q nu ao ca L N vs 0 none 0) := ⟨Keeps.refl _ _, hqA, ⟨rfl, .inl ⟨rfl, rfl⟩⟩, fun g e => by simp [Value.ownBlock] at e⟩
 have HQ : Hid (q < A.heap.size) := lt_of_heap hqA
 have HBc : Hid (∀ wr k, Keeps A wr (fun z => z = q) → k < 2 → wr.cell? ⟨qb, k, none⟩ = some (.slice (vb k) (vn k) (vc k))) := fun wr k g hk => g.cell' (gA.cell' (hb k hk) id) hqb
 have HD : Hid (∀ wr, Keeps A wr (fun z => z = q) → wr.heap[W.heap.size]? = some (.cells (dCo L N (.slice (some ⟨qb, 0, none⟩) 2 bc)) 68)) := fun wr g => (g.block _ (lt_of_heap hd) (fun e => by have e' : W.heap.size = q := e; have := lt_of_heap hq; omega)).trans hd
 have HTT : Hid (∀ wr, Keeps A wr (fun z => z = q) → Tab wr) := fun wr g => hqT wr ((gA.mono fun _ _ h => h.elim).tr g)
 have HGA := hidM gA
 clear gA hq hqA hd hb hT hqT hqb hvs
 unfold dCo at hA ⊢
 go_enter Tryz.func128, Tryz.ntmps128
 go_wp2_with fail
 go_loopw [14] (fun i wr => ∃ (k : Nat) (ro : Option Addr) (rc : Nat), k ≤ 2 ∧ i = .int .i64 k ∧ Hid (FillI nx A wr q nu ao ca L N vs k ro rc)) (fun i _ => 2 - (intOf i).toNat)
 case atStart => exact ⟨0, none, 0, by omega, rfl, HI0⟩
 case round =>
  obtain ⟨k, ro, rc, hk, rfl, HI⟩ := hrel
  by_cases hlt : k < 2
  ·have c1 := HBc.out wr k HI.out.1 hlt
   have c11 := cellB HI.out.2.1
   have HR : Hid (∀ w1 A2, w1.alloc (.cells #[.slice (vb k) (vn k) (vc k), .int .i64 0, .pointer none] 258) = A2 → Gr wr.drew w1 → _) := fun w1 A2 hA2 g1 => fill_step HI.out HQ.out (Keeps.trans gr_drew g1 (fun _ _ h => h)) hA2 rfl (HV.out k hlt)
   clear HI
   go_wp2_with fail
   refine wp_region_held_drew (S := fun w' => True) (by kernel_rfl) trivial (fun hHeld => ?_)
   refine tk 0 ?_
   refine tk 1 ?_
   refine tk 2 ?_
   refine tk 3 ?_
   refine tk 5 ?_
   refine rd2 4 6 (fun Kc hK => ?_) fun Kc hK => ?_
   ·go_simp
    refine hK.out _ _ trivial (fun hHeld => ?_)
    clear hK Kc
    try simp only [Act.put, lA, lB, lC]
    refine rd1 6 fun Kc hK => ?_
    go_simp
    go_at_call 147
    refine Calls.mono (viewOf93 _ _ _ _) ?_
    rintro e' w1 ⟨rfl, g1⟩
    obtain ⟨A2, hA2⟩ := ex (w1.alloc (.cells #[.slice (vb k) (vn k) (vc k), .int .i64 0, .pointer none] 258))
    obtain ⟨HOw, HSr, HAt, HEnd, hc1, hc2⟩ := HR.out w1 A2 hA2 g1
    clear g1
    go_wp2_with fail
    refine hK.out _ _ trivial (fun hHeld => ?_)
    clear hK Kc
    try simp only [Act.put, lA, lB, lC]
    refine rd1 7 fun Kc hK => ?_
    go_simp
    refine hK.out _ _ (trivial) (fun hHeld => ?_)
    clear hK Kc
    try simp only [Act.put, lA, lB, lC]
    refine rd1 8 fun Kc hK => ?_
    refine step_append_anyN (P := Tryz.prog) _ rfl (.tmp 22) (.tmp 25) 162 162 rfl 258 (.agg #[.slice none 0 0, .int .i64 0, .pointer none]) 3 40 Tryz.underlying162 info236 rfl (.slice ro k rc) k (vs.take (3 * k)) rfl HOw.out (.slice (some ⟨w1.heap.size, 0, none⟩) 1 1) 1 [.slice (vb k) (vn k) (vc k), .int .i64 0, .pointer none] rfl HSr.out (by omega) (by omega) ?_
    intro v' w7 ha1 ha2 ha3
    obtain ⟨uo, uc, rfl⟩ := own_formN ha1
    have hm7 := HAt.out w7 ha2
    have c11 := cellB hm7
    have z11 := frz hm7 11
    have HE := hidM (HEnd.out _ _ _ ha1 ha2 ha3)
    clear ha1 ha2 ha3 hm7
    refine hK.out _ _ trivial (fun hHeld => ?_)
    clear hK Kc
    try simp only [Act.put, lA, lB, lC]
    refine tk 9 ?_
    refine tk 10 ?_
    refine rd1 11 fun Kc hK => ?_
    go_simp
    refine hK.out _ _ trivial (fun hHeld => ?_)
    clear hK Kc
    try simp only [Act.put, lA, lB, lC]
    refine wpAnyH_done (by kernel_rfl) ?_ _
    clear hHeld c11 z11
    go_wp2_with fail
    go_roundw
    case rel => exact ⟨k + 1, uo, uc, by omega, by go_num, HE⟩
    case measure => simp [intOf]; omega
   go_simp
   go_at_call 147
   refine Calls.mono (viewOf93 _ _ _ _) ?_
   rintro e' w1 ⟨rfl, g1⟩
   obtain ⟨A2, hA2⟩ := ex (w1.alloc (.cells #[.slice (vb k) (vn k) (vc k), .int .i64 0, .pointer none] 258))
   obtain ⟨HOw, HSr, HAt, HEnd, hc1, hc2⟩ := HR.out w1 A2 hA2 g1
   clear g1
   go_wp2_with fail
   refine hK.out _ _ trivial (fun hHeld => ?_)
   clear hK Kc
   try simp only [Act.put, lA, lB, lC]
   refine rd2 4 7 (fun Kc hK => ?_) fun Kc hK => ?_
   ·go_simp
    refine hK.out _ _ trivial (fun hHeld => ?_)
    clear hK Kc
    try simp only [Act.put, lA, lB, lC]
    refine rd1 7 fun Kc hK => ?_
    go_simp
    refine hK.out _ _ (trivial) (fun hHeld => ?_)
    clear hK Kc
    try simp only [Act.put, lA, lB, lC]
    refine rd1 8 fun Kc hK => ?_
    refine step_append_anyN (P := Tryz.prog) _ rfl (.tmp 22) (.tmp 25) 162 162 rfl 258 (.agg #[.slice none 0 0, .int .i64 0, .pointer none]) 3 40 Tryz.underlying162 info236 rfl (.slice ro k rc) k (vs.take (3 * k)) rfl HOw.out (.slice (some ⟨w1.heap.size, 0, none⟩) 1 1) 1 [.slice (vb k) (vn k) (vc k), .int .i64 0, .pointer none] rfl HSr.out (by omega) (by omega) ?_
    intro v' w7 ha1 ha2 ha3
    obtain ⟨uo, uc, rfl⟩ := own_formN ha1
    have hm7 := HAt.out w7 ha2
    have c11 := cellB hm7
    have z11 := frz hm7 11
    have HE := hidM (HEnd.out _ _ _ ha1 ha2 ha3)
    clear ha1 ha2 ha3 hm7
    refine hK.out _ _ trivial (fun hHeld => ?_)
    clear hK Kc
    try simp only [Act.put, lA, lB, lC]
    refine tk 9 ?_
    refine tk 10 ?_
    refine rd1 11 fun Kc hK => ?_
    go_simp
    refine hK.out _ _ trivial (fun hHeld => ?_)
    clear hK Kc
    try simp only [Act.put, lA, lB, lC]
    refine wpAnyH_done (by kernel_rfl) ?_ _
    clear hHeld c11 z11
    go_wp2_with fail
    go_roundw
    case rel => exact ⟨k + 1, uo, uc, by omega, by go_num, HE⟩
    case measure => simp [intOf]; omega
   go_simp
   refine hK.out _ _ trivial (fun hHeld => ?_)
   clear hK Kc
   try simp only [Act.put, lA, lB, lC]
   refine rd1 4 fun Kc hK => ?_
   go_simp
   refine hK.out _ _ trivial (fun hHeld => ?_)
   clear hK Kc
   try simp only [Act.put, lA, lB, lC]
   refine rd1 8 fun Kc hK => ?_
   refine step_append_anyN (P := Tryz.prog) _ rfl (.tmp 22) (.tmp 25) 162 162 rfl 258 (.agg #[.slice none 0 0, .int .i64 0, .pointer none]) 3 40 Tryz.underlying162 info236 rfl (.slice ro k rc) k (vs.take (3 * k)) rfl HOw.out (.slice (some ⟨w1.heap.size, 0, none⟩) 1 1) 1 [.slice (vb k) (vn k) (vc k), .int .i64 0, .pointer none] rfl HSr.out (by omega) (by omega) ?_
   intro v' w7 ha1 ha2 ha3
   obtain ⟨uo, uc, rfl⟩ := own_formN ha1
   have hm7 := HAt.out w7 ha2
   have c11 := cellB hm7
   have z11 := frz hm7 11
   have HE := hidM (HEnd.out _ _ _ ha1 ha2 ha3)
   clear ha1 ha2 ha3 hm7
   refine hK.out _ _ trivial (fun hHeld => ?_)
   clear hK Kc
   try simp only [Act.put, lA, lB, lC]
   refine tk 9 ?_
   refine tk 10 ?_
   refine rd1 11 fun Kc hK => ?_
   go_simp
   refine hK.out _ _ trivial (fun hHeld => ?_)
   clear hK Kc
   try simp only [Act.put, lA, lB, lC]
   refine wpAnyH_done (by kernel_rfl) ?_ _
   clear hHeld c11 z11
   go_wp2_with fail
   go_roundw
   case rel => exact ⟨k + 1, uo, uc, by omega, by go_num, HE⟩
   case measure => simp [intOf]; omega
  obtain rfl : k = 2 := by omega
  have hT0 := hidM (HTT.out wr HI.out.1)
  obtain ⟨n2, n3, n4, n5, n6⟩ := cellT HI.out.2.1
  go_wp2_with (first
   | (go_at_call 148; refine (partFields94 ao ca _ hT0.out (fun u _ => copied37 ao ca u)).mono ?_; rintro e w2 ⟨fo, fc, rfl, g2⟩; have HI2 := hidM (HI.out.gr g2); have HG2 := hidM g2; clear g2 n2 n3 n4 n5 n6; obtain ⟨d0, d1, d2, d3, d4, d5⟩ := cell6 (HD.out w2 HI2.out.1))
   | (go_at_call 149; refine (partData95 L N (.slice (some ⟨qb, 0, none⟩) 2 bc) w2).mono ?_; rintro e w3 ⟨uo, uc, rfl, g3⟩; have HI3 := hidM (HI2.out.gr g3); clear g3 d0 d1 d2 d3 d4 d5))
  go_loopw [39] (fun i wr => i = .int .i64 0 ∧ wr = w3) (fun i _ => 0)
  case atStart => exact ⟨rfl, rfl⟩
  case round =>
   obtain ⟨rfl, rfl⟩ := hrel
   go_wp2_with fail
   go_end0
   exact ⟨ro, rc, rfl, HI3.out.base HGA.out⟩
theorem cell3V {W : World} {p t : Nat} {a b c : Value} (h : W.heap[p]? = some (.cells #[a, b, c] t)) : W.cell? ⟨p, 0, none⟩ = some a ∧ W.cell? ⟨p, 1, none⟩ = some b ∧ W.cell? ⟨p, 2, none⟩ = some c := by
 refine ⟨?_, ?_, ?_⟩ <;> simp [World.cell?, h]
theorem end139 (vo : Option Addr) (n c f m : Nat) (W : World) (h : f + m ≤ n) (hn : n ≤ 100000) : Calls Tryz.prog 209 #[.agg #[.slice vo n c, .int .i64 0, .pointer none], .int .i64 f, .int .i64 m] W fun e w' => e = .returned (.tuple #[.int .i64 ((f + m : Nat) : Int), .bool true]) ∧ Gr W w' := by
 obtain ⟨A, hA⟩ := ex (W.alloc (.cells #[.slice vo n c, .int .i64 0, .pointer none] 258))
 have gA := gr_al hA
 have hb : A.heap[W.heap.size]? = some (.cells #[.slice vo n c, .int .i64 0, .pointer none] 258) := by rw [← hA]; exact heap_alloc_new W _
 obtain ⟨B, hB, gB, hb2⟩ := nw A (.cells #[.int .i64 f, .int .i64 m] 3)
 obtain ⟨z0, z1⟩ := cell2 hb2
 have HC := hidM (sum92 A.heap.size 2 f m B z0 z1 (by omega) (by omega))
 have HG := hidM (gA.tr gB)
 have HS0 : Hid (B.drew.cell? ⟨W.heap.size, 0, none⟩ = some (.slice vo n c)) := by
  have hbB := (gB.block _ (lt_of_heap hb) id).trans hb
  show B.cell? _ = _
  simp [World.cell?, hbB]
 obtain ⟨s, hs⟩ := ex (f + m)
 rw [hs] at h HC ⊢
 have b1 : ((s : Int) ≤ (n : Int)) := by omega
 clear gA hb gB hb2 z0 z1 hs h
 go_enter Tryz.func209, Tryz.ntmps209
 go_wp2_with (go_at_call 146; refine HC.out.mono ?_; rintro e w2 ⟨rfl, rfl⟩)
 go_region_held3 (fun u => u.cell? ⟨W.heap.size, 0, none⟩ = some (.slice vo n c)) (with_reducible exact HS0.out) (fail)
 go_wp2_with fail
 go_ret2
 exact ⟨rfl, HG.out.drew⟩
theorem ptr_nn (w : World) : (binOp .neq 166 (.pointer none) (.pointer none)).run Tryz.prog w = .ok (.bool false) w := by kernel_rfl
theorem tell140 (vo : Option Addr) (n c : Nat) (f s : Int) (W : World) : Calls Tryz.prog 210 #[.agg #[.slice vo n c, .int .i64 0, .pointer none], .int .i64 f, .int .i64 s] W fun e w' => e = .returned (.tuple #[]) ∧ Gr W w' := by
 have hp := ptr_nn
 go_enter Tryz.func210, Tryz.ntmps210
 go_wp2_with fail
 go_end0
 exact ⟨rfl, gr_alloc _ _⟩
theorem read136 (g n c f m : Nat) (W : World) (h : f + m ≤ n) (hn : n ≤ 100000) (hc : n ≤ c) (hm : 0 < m) : Calls Tryz.prog 200 #[.agg #[.slice (some ⟨g, 0, none⟩) n c, .int .i64 0, .pointer none], .int .i64 f, .int .i64 m] W fun e w' => e = .returned (.tuple #[.slice (some ⟨g, f, none⟩) m (c - f), .bool true]) ∧ Gr W w' := by
 obtain ⟨A, hA⟩ := ex (W.alloc (.cells #[.slice (some ⟨g, 0, none⟩) n c, .int .i64 0, .pointer none] 258))
 have gA := gr_al hA
 have hb : A.heap[W.heap.size]? = some (.cells #[.slice (some ⟨g, 0, none⟩) n c, .int .i64 0, .pointer none] 258) := by rw [← hA]; exact heap_alloc_new W _
 obtain ⟨e0, e1, e2⟩ := cell3V hb
 have HB := hidM hb
 have HG := hidM gA
 obtain ⟨s, hs⟩ := ex (f + m)
 have HC := hidM (end139 (some ⟨g, 0, none⟩) n c f m A h hn)
 rw [hs] at h HC
 have HE : Hid (s - f = m) := (by omega : s - f = m)
 have b1 : ¬ ((f : Int) < 0) := by omega
 have b2 : (f : Int) ≤ (s : Int) := by omega
 have b3 : (s : Int) ≤ (c : Int) := by omega
 have b4 : (0 : Int) ≤ (f : Int) := by omega
 have b5 : f ≤ s := by omega
 have b6 : s ≤ c := by omega
 have b7 : f < c := by omega
 have b8 : ¬ (c - f = 0) := by omega
 have b9 : ¬ (c ≤ f) := by omega
 have b10 : ¬ ((c : Int) = (f : Int)) := by omega
 have b11 : ¬ ((f : Int) = (c : Int)) := by omega
 clear gA hb hs
 go_enter Tryz.func200, Tryz.ntmps200
 go_wp2_with (first
  | (go_at_call 209; refine HC.out.mono ?_; rintro e w2 ⟨rfl, g2⟩; have HG2 := hidM (HG.out.tr g2); clear hA e0 e1 e2; have HB2 := hidM ((g2.block _ (lt_of_heap HB.out) id).trans HB.out); obtain ⟨e0, e1, e2⟩ := cell3V HB2.out; clear g2)
  | (go_at_call 210; refine (tell140 _ _ _ _ _ w2).mono ?_; rintro e w3 ⟨rfl, g3⟩; have HG3 := hidM (HG2.out.tr g3); clear e0 e1 e2; obtain ⟨e0, e1, e2⟩ := cell3V ((g3.block _ (lt_of_heap HB2.out) id).trans HB2.out); clear g3))
 go_ret2
 refine ⟨?_, HG3.out⟩
 have := HE.out
 simp [this]
end Go.Proofs.YthhpamhfnpacpaaGreatDoor.Kit
