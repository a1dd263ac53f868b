import Derived.Test.YtcfdkadhclickaaDoorVD
import Derived.Lib.Bytealg
namespace Go.Proofs.YtcfdkadhclickaaDoor.Kit
open Go.RowKit Go.Shelf Go.Deep
set_option linter.unusedVariables false

/-! ### which values are the same -/
/-- two lists of the same length, whose parts are alike one by one -/
def sameAll {α : Type} (p : α → α → Bool) : List α → List α → Bool
  | [], [] => true
  | f :: a, g :: b => p f g && sameAll p a b
  | [], _ :: _ => false
  | _ :: _, [] => false
theorem sameAll_len {α : Type} {p : α → α → Bool} : ∀ {a b : List α}, a.length ≠ b.length → sameAll p a b = false
  | [], [], h => absurd rfl h
  | [], _ :: _, _ => rfl
  | _ :: _, [], _ => rfl
  | _ :: a, _ :: b, h => by simp [sameAll, sameAll_len (a := a) (b := b) (by simpa using h)]
theorem sameAll_true {α : Type} {p : α → α → Bool} : ∀ {a b : List α}, a.length = b.length → (∀ i (h : i < a.length) (h' : i < b.length), p a[i] b[i] = true) → sameAll p a b = true
  | [], [], _, _ => rfl
  | [], _ :: _, h, _ => by simp at h
  | _ :: _, [], h, _ => by simp at h
  | f :: a, g :: b, h, hp => by
    have h0 : p f g = true := hp 0 (by simp) (by simp)
    have h1 := sameAll_true (p := p) (a := a) (b := b) (by simpa using h) (fun i hi hi' => hp (i + 1) (by simp; omega) (by simp; omega))
    simp [sameAll, h0, h1]
theorem sameAll_false {α : Type} {p : α → α → Bool} : ∀ {a b : List α} (i : Nat) (h : i < a.length) (h' : i < b.length), p a[i] b[i] = false → sameAll p a b = false
  | [], _, _, h, _, _ => by simp at h
  | _ :: _, [], _, _, h, _ => by simp at h
  | f :: a, g :: b, 0, _, _, hp => by
    have : p f g = false := hp
    simp [sameAll, this]
  | f :: a, g :: b, i + 1, h, h', hp => by
    have h1 := sameAll_false (p := p) (a := a) (b := b) i (by simp at h; omega) (by simp at h'; omega) hp
    simp [sameAll, h1]
theorem sameAll_iff {α : Type} {p : α → α → Bool} : ∀ {a b : List α}, (∀ x ∈ a, ∀ y ∈ b, (p x y = true ↔ x = y)) → (sameAll p a b = true ↔ a = b)
  | [], [], _ => by simp [sameAll]
  | [], _ :: _, _ => by simp [sameAll]
  | _ :: _, [], _ => by simp [sameAll]
  | x :: a, y :: b, h => by
    have h0 := h x (by simp) y (by simp)
    have h1 := sameAll_iff (p := p) (a := a) (b := b) fun u hu v hv => h u (by simp [hu]) v (by simp [hv])
    simp only [sameAll, Bool.and_eq_true, List.cons.injEq, h0, h1]
mutual
def sameVL : Nat → List VT → List VT → Bool
  | 0, a, b => sameAll (fun _ _ => true) a b
  | d + 1, a, b => sameAll (sameV d) a b
def sameV : Nat → VT → VT → Bool
  | d, a, b => (a.nul == b.nul) && (a.num == b.num) && sEq a.text b.text && sameVL d a.list b.list
end
theorem sameVL_succ (d : Nat) (a b : List VT) : sameVL (d + 1) a b = sameAll (sameV d) a b := by rw [sameVL]
theorem sameV_eq (d : Nat) (a b : VT) : sameV d a b = ((a.nul == b.nul) && (a.num == b.num) && sEq a.text b.text && sameVL d a.list b.list) := by rw [sameV]
theorem sEq_iff (a b : ByteArray) : sEq a b = true ↔ a = b := by
  unfold sEq
  rw [ByteArray.toList_eq, ByteArray.toList_eq, beq_iff_eq]
  exact ⟨bytes_ext, fun h => by rw [h]⟩
theorem same_iff : ∀ (d : Nat) (a b : VT), vdeep d a.list → vdeep d b.list → (sameV d a b = true ↔ a = b) := by
  intro d
  induction d with
  | zero =>
    intro a b ha hb
    have ha' : a.list = [] := ha
    have hb' : b.list = [] := hb
    rw [sameV_eq, sameVL, ha', hb']
    simp only [Bool.and_eq_true, beq_iff_eq, sEq_iff, sameAll]
    exact ⟨fun ⟨⟨⟨h1, h2⟩, h3⟩, _⟩ => VT.ext' h1 h2 h3 (ha'.trans hb'.symm), fun h => by subst h; simp⟩
  | succ d ih =>
    intro a b ha hb
    have hl : sameAll (sameV d) a.list b.list = true ↔ a.list = b.list := sameAll_iff fun x hx y hy => ih x y (ha x hx) (hb y hy)
    rw [sameV_eq, sameVL_succ]
    simp only [Bool.and_eq_true, beq_iff_eq, sEq_iff, hl]
    exact ⟨fun ⟨⟨⟨h1, h2⟩, h3⟩, h4⟩ => VT.ext' h1 h2 h3 h4, fun h => by subst h; simp⟩
/-- the order of bytes as the library tells it -/
theorem cmpT_eq : ∀ (a b : List UInt8), cmpT a b = Lib.compareBytes a b
  | [], [] => rfl
  | [], _ :: _ => rfl
  | _ :: _, [] => rfl
  | a :: la, b :: lb => by
    have ih : cmpL (fun x y : UInt8 => cmpI (x.toNat : Int) (y.toNat : Int)) la lb = Lib.compareBytes la lb := cmpT_eq la lb
    show cmpL (fun x y : UInt8 => cmpI (x.toNat : Int) (y.toNat : Int)) (a :: la) (b :: lb) = _
    rw [cmpL, Lib.compareBytes, ih]
    by_cases h1 : a.toNat < b.toNat
    · have e : cmpI (a.toNat : Int) (b.toNat : Int) = -1 := if_pos (by omega)
      rw [e, if_pos (by decide), if_pos (UInt8.lt_iff_toNat_lt.2 h1)]
    · by_cases h2 : b.toNat < a.toNat
      · have e : cmpI (a.toNat : Int) (b.toNat : Int) = 1 := by unfold cmpI; rw [if_neg (by omega), if_pos (by omega)]
        rw [e, if_pos (by decide), if_neg (fun h => h1 (UInt8.lt_iff_toNat_lt.1 h)), if_pos (UInt8.lt_iff_toNat_lt.2 h2)]
      · have e : cmpI (a.toNat : Int) (b.toNat : Int) = 0 := by unfold cmpI; rw [if_neg (by omega), if_neg (by omega)]
        rw [e, if_neg (by decide), if_neg (fun h => h1 (UInt8.lt_iff_toNat_lt.1 h)), if_neg (fun h => h2 (UInt8.lt_iff_toNat_lt.1 h))]
end Go.Proofs.YtcfdkadhclickaaDoor.Kit
