import Derived.Test.YtchhnchddledlaaDoorLD
import Derived.Test.YtchhnchddledlaaDoorFH
import Derived.Test.YtchhnchddledlaaDoorHA
namespace Go.Proofs.YtchhnchddledlaaDoor.Kit
open Go.RowKit Go.Shelf Go.Deep

/-! ### which lists of fields are the same in all; and what that is of their fields in order -/
/-- two lists of the same length, whose fields are alike one by one -/
def sameAll {α : Type} (p : α → α → Bool) : List α → List α → Bool
  | [], [] => true
  | f :: a, g :: b => p f g && sameAll p a b
  | [], _ :: _ => false
  | _ :: _, [] => false
theorem sameAll_len {α : Type} {p : α → α → Bool} : ∀ {a b : List α}, a.length ≠ b.length → sameAll p a b = false
  | [], [], h => absurd rfl h
  | [], _ :: _, _ => rfl
  | _ :: _, [], _ => rfl
  | _ :: a, _ :: b, h => by simp [sameAll, sameAll_len (a := a) (b := b) (by simpa using h)]
theorem sameAll_true {α : Type} {p : α → α → Bool} : ∀ {a b : List α}, a.length = b.length → (∀ i (h : i < a.length) (h' : i < b.length), p a[i] b[i] = true) → sameAll p a b = true
  | [], [], _, _ => rfl
  | [], _ :: _, h, _ => by simp at h
  | _ :: _, [], h, _ => by simp at h
  | f :: a, g :: b, h, hp => by
    have h0 : p f g = true := hp 0 (by simp) (by simp)
    have h1 := sameAll_true (p := p) (a := a) (b := b) (by simpa using h) (fun i hi hi' => hp (i + 1) (by simp; omega) (by simp; omega))
    simp [sameAll, h0, h1]
theorem sameAll_false {α : Type} {p : α → α → Bool} : ∀ {a b : List α} (i : Nat) (h : i < a.length) (h' : i < b.length), p a[i] b[i] = false → sameAll p a b = false
  | [], _, _, h, _, _ => by simp at h
  | _ :: _, [], _, _, h, _ => by simp at h
  | f :: a, g :: b, 0, _, _, hp => by
    have : p f g = false := hp
    simp [sameAll, this]
  | f :: a, g :: b, i + 1, h, h', hp => by
    have h1 := sameAll_false (p := p) (a := a) (b := b) i (by simp at h; omega) (by simp at h'; omega) hp
    simp [sameAll, h1]
/-- a type's own numbers -/
def tyEq (f g : FT) : Bool := f.kind == g.kind && f.width == g.width && f.id == g.id && f.index == g.index
mutual
def sameLs : Nat → List FT → List FT → Bool
  | 0, a, b => sameAll (fun _ _ => true) a b
  | d + 1, a, b => sameAll (sameFd d) a b
def sameFd : Nat → FT → FT → Bool
  | d, f, g => sEq f.name g.name && (f.nul == g.nul) && (tyEq f g && sameLs d f.kids g.kids)
end
theorem sameLs_succ (d : Nat) (a b : List FT) : sameLs (d + 1) a b = sameAll (sameFd d) a b := by rw [sameLs]
theorem sameFd_eq (d : Nat) (f g : FT) : sameFd d f g = (sEq f.name g.name && (f.nul == g.nul) && (tyEq f g && sameLs d f.kids g.kids)) := by rw [sameFd]

/-- the fields in their order, without their ways -/
def pre : Nat → List FT → List FT
  | 0, _ => []
  | d + 1, l => l.flatMap fun f => f :: pre d f.kids
def deep : Nat → List FT → Prop
  | 0, l => l = []
  | d + 1, l => ∀ f ∈ l, deep d f.kids
theorem RowAt.deep {S : Nat → Prop} {W : World} : ∀ {d : Nat} {ao : Option Addr} {l : List FT}, RowAt S W d ao l → Kit.deep d l
  | 0, _, _, h => h
  | d + 1, _, l, h => fun f hf => by
    obtain ⟨i, hi, rfl⟩ := List.mem_iff_getElem.1 hf
    obtain ⟨b, o, _, _, hc⟩ := h.2 (fun e => by subst e; simp at hi)
    obtain ⟨ao', ca', _, _, hr⟩ := hc i hi
    exact RowAt.deep hr
def nodeEq (f g : FT) : Bool := (f.nul == g.nul) && (tyEq f g && decide (f.kids.length = g.kids.length))
def nmEq (f g : FT) : Bool := nodeEq f g && sEq f.name g.name
/-- two lists of fields in order, one by one -/
def allP (p : FT → FT → Bool) (l m : List FT) : Bool := sameAll p l m

theorem sameAll_app {α : Type} {p : α → α → Bool} : ∀ {a b ra rb : List α}, a.length = b.length → sameAll p (a ++ ra) (b ++ rb) = (sameAll p a b && sameAll p ra rb)
  | [], [], _, _, _ => by simp [sameAll]
  | [], _ :: _, _, _, h => by simp at h
  | _ :: _, [], _, _, h => by simp at h
  | f :: a, g :: b, ra, rb, h => by simp [sameAll, sameAll_app (p := p) (a := a) (b := b) (ra := ra) (rb := rb) (by simpa using h), Bool.and_assoc]

/-- the order tells the tree -/
theorem pre_same : ∀ (d : Nat) (a b ra rb : List FT), deep d a → deep d b → a.length = b.length → sameAll nmEq (pre d a ++ ra) (pre d b ++ rb) = (sameLs d a b && sameAll nmEq ra rb)
  | 0, a, b, ra, rb, ha, hb, _ => by
    have ha' : a = [] := ha
    have hb' : b = [] := hb
    subst ha' hb'
    simp [pre, sameLs, sameAll]
  | d + 1, a, b, ra, rb, ha, hb, hl => by
    rw [sameLs_succ]
    induction a generalizing b with
    | nil =>
      cases b with
      | nil => simp [pre, sameAll]
      | cons g b => simp at hl
    | cons f a ih =>
      cases b with
      | nil => simp at hl
      | cons g b =>
        have e1 : pre (d + 1) (f :: a) ++ ra = f :: (pre d f.kids ++ (pre (d + 1) a ++ ra)) := by simp [pre]
        have e2 : pre (d + 1) (g :: b) ++ rb = g :: (pre d g.kids ++ (pre (d + 1) b ++ rb)) := by simp [pre]
        rw [e1, e2, sameAll, sameAll]
        by_cases hk : f.kids.length = g.kids.length
        · rw [pre_same d f.kids g.kids _ _ (ha f (by simp)) (hb g (by simp)) hk, ih b (fun x hx => ha x (by simp [hx])) (fun x hx => hb x (by simp [hx])) (by simpa using hl)]
          rw [sameFd_eq, nmEq, nodeEq]
          simp only [hk, decide_true, Bool.and_true]
          cases f.nul == g.nul <;> cases tyEq f g <;> cases sEq f.name g.name <;> cases sameLs d f.kids g.kids <;> simp
        · have h1 : nmEq f g = false := by simp [nmEq, nodeEq, hk]
          have h2 : sameLs d f.kids g.kids = false := by
            cases d with
            | zero => rw [sameLs]; exact sameAll_len hk
            | succ d => rw [sameLs_succ]; exact sameAll_len hk
          rw [sameFd_eq, h1, h2]
          simp
/-- of nodes -/
theorem nodes_pre : ∀ (d : Nat) (l : List FT) (path : List Nat) (inD : Bool), (nodes d l path inD).map LS.fld = pre d l
  | 0, _, _, _ => rfl
  | d + 1, l, path, inD => by
    have key : ∀ n, n ≤ l.length → (upto d l path inD n).map LS.fld = (l.take n).flatMap fun f => f :: pre d f.kids := by
      intro n
      induction n with
      | zero => intro _; simp [upto_zero]
      | succ n ih =>
        intro hn
        have hx : LS.fld ⟨l, path ++ [n], inD⟩ = l[n] := by
          have hi : LS.idx ⟨l, path ++ [n], inD⟩ = n := by simp [LS.idx]
          unfold LS.fld
          rw [hi]
          simp [List.getElem?_eq_getElem (show n < l.length by omega)]
        have hb : l[n]! = l[n] := getElem!_pos l n (by omega)
        rw [upto_succ, List.map_append, ih (by omega), List.map_cons, nodes_pre d, hx, hb, List.take_succ_eq_append_getElem (by omega), List.flatMap_append]
        simp
    have := key l.length (Nat.le_refl _)
    rw [nodes_succ, this, List.take_length]
    rfl
theorem sameAll_map {α β : Type} {p : β → β → Bool} (h : α → β) : ∀ (a b : List α), sameAll p (a.map h) (b.map h) = sameAll (fun x y => p (h x) (h y)) a b
  | [], [] => rfl
  | [], _ :: _ => rfl
  | _ :: _, [] => rfl
  | f :: a, g :: b => by simp [sameAll, sameAll_map h a b]
/-- as the document holds two nodes against each other -/
def ndEq (nm : Bool) (x y : LS) : Bool := nodeEq x.fld y.fld && (!(nm || decide (1 < x.path.length)) || sEq x.fld.name y.fld.name)
theorem ndEq_true (x y : LS) : ndEq true x y = nmEq x.fld y.fld := by simp [ndEq, nmEq]
def alikeB (nm : Bool) (la lb : Nat) (N M : List LS) : Bool := decide (la = lb) && sameAll (ndEq nm) N M
/-- of schemas: the tree's own answer -/
theorem alikeB_true {d : Nat} {a b : List FT} (ha : deep d a) (hb : deep d b) : alikeB true a.length b.length (nodes d a [] false) (nodes d b [] false) = sameLs d a b := by
  have e : sameAll (ndEq true) (nodes d a [] false) (nodes d b [] false) = sameAll nmEq (pre d a) (pre d b) := by
    rw [← nodes_pre d a [] false, ← nodes_pre d b [] false, sameAll_map]
    rw [show ndEq true = fun x y => nmEq x.fld y.fld from funext fun x => funext fun y => ndEq_true x y]
  unfold alikeB
  rw [e]
  by_cases hl : a.length = b.length
  · have := pre_same d a b [] [] ha hb hl
    simp only [List.append_nil] at this
    rw [this]
    simp [hl, sameAll]
  · have h2 : sameLs d a b = false := by
      cases d with
      | zero => rw [sameLs]; exact sameAll_len hl
      | succ d => rw [sameLs_succ]; exact sameAll_len hl
    simp [hl, h2]
end Go.Proofs.YtchhnchddledlaaDoor.Kit
namespace Go.Proofs.YtchhnchddledlaaDoor.Kit
open Go.RowKit Go.Shelf Go.Deep
set_option linter.unusedVariables false
attribute [local go_sem] run_store_func

def Ans (F : Nat) (args : Array Value) (b : Bool) (w : World) : Prop := ∀ W, Gr w W → Calls Tryd.prog F args W fun e w' => e = .returned (.bool b) ∧ Gr W w'
theorem Ans.gr {F : Nat} {args : Array Value} {b : Bool} {w W : World} (h : Ans F args b w) (g : Gr w W) : Ans F args b W := fun W' g' => h W' (g.trans g' (fun _ _ h => h))

theorem beqZ {a b : Int} (h : ¬ a = b) : (a == b) = false := by simp [h]
def fldA (f : FT) (ao : Option Addr) (ca : Nat) : Value := .agg #[.string f.name, .bool f.nul, .int .i64 f.kind, .int .i64 f.width, .int .i64 f.id, .int .i64 f.index, .slice ao f.kids.length ca]

end Go.Proofs.YtchhnchddledlaaDoor.Kit
