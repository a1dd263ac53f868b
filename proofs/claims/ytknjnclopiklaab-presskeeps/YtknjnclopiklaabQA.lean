import Derived.Test.YtknjnclopiklaabPZ
namespace Go.Proofs.Ytknjnclopiklaab.Kit
open Go.RowKit Go.Shelf Go.Deep
set_option linter.unusedVariables false
attribute [local go_sem] run_store_func

/-! ### unpacking, as a function of data -/
structure It where
  bytes : List UInt8
  again : Nat
  back : Nat
  size : Nat
def sizeI (how : Int) (c all : Nat) : Nat := if how = 0 then all else if c < 128 then c + 2 else if how = 1 then 2 else 3
def firstI (how : Int) (b : List UInt8) : It :=
  let c := (b.getD 0 0).toNat
  let s := sizeI how c b.length
  if b.length < s then ⟨[], 0, 0, s⟩ else if how = 0 then ⟨b, 0, 0, s⟩ else if c < 128 then ⟨(b.drop 1).take (s - 1), 0, 0, s⟩
  else if how = 1 then ⟨(b.drop 1).take (s - 1), c - 126, 1, s⟩ else ⟨[], c - 124, (b.getD 1 0).toNat + (b.getD 2 0).toNat * 256 + 1, s⟩
def layBack (far : Nat) : Nat → List UInt8 → List UInt8
  | 0, out => out
  | n + 1, out => layBack far n (out ++ [out.getD (out.length - far) 0])
def layI (i : It) (out : List UInt8) : List UInt8 := layBack i.back i.again (out ++ i.bytes)
def unp (how : Int) (most : Nat) : Nat → List UInt8 → List UInt8 → Int × List UInt8
  | 0, out, _ => (0, out)
  | f + 1, out, b => if b = [] then (0, out) else
    if b.length < (firstI how b).size then (60, []) else if out.length + (firstI how b).bytes.length < (firstI how b).back then (63, [])
    else if most < out.length + (firstI how b).bytes.length + (firstI how b).again then (61, []) else unp how most f (layI (firstI how b) out) (b.drop (firstI how b).size)
theorem layBack_len (far : Nat) : ∀ (n : Nat) (out : List UInt8), (layBack far n out).length = out.length + n
  | 0, out => rfl
  | n + 1, out => by rw [layBack, layBack_len far n]; simp; omega
theorem layI_len (i : It) (out : List UInt8) : (layI i out).length = out.length + i.bytes.length + i.again := by unfold layI; rw [layBack_len]; simp
theorem sizeI_pos (how : Int) (c : Nat) {all : Nat} (h : 0 < all) : 0 < sizeI how c all := by unfold sizeI; split; exact h; split; omega; split <;> omega
theorem firstI_size (how : Int) (b : List UInt8) : (firstI how b).size = sizeI how (b.getD 0 0).toNat b.length := by
  unfold firstI
  simp only
  split
  · rfl
  split
  · rfl
  split
  · rfl
  split <;> rfl
theorem unp_done (how : Int) (most f : Nat) (out : List UInt8) : unp how most f out [] = (0, out) := by cases f <;> simp [unp]
theorem unp_cut {how : Int} {most f : Nat} {out b : List UInt8} (hb : b ≠ []) (hf : b.length ≤ f) (h : b.length < (firstI how b).size) : unp how most f out b = (60, []) := by
  cases f with
  | zero => exact absurd (List.eq_nil_of_length_eq_zero (by omega)) hb
  | succ f => rw [unp, if_neg hb, if_pos h]
theorem unp_back {how : Int} {most f : Nat} {out b : List UInt8} (hb : b ≠ []) (hf : b.length ≤ f) (h : ¬ b.length < (firstI how b).size) (h2 : out.length + (firstI how b).bytes.length < (firstI how b).back) : unp how most f out b = (63, []) := by
  cases f with
  | zero => exact absurd (List.eq_nil_of_length_eq_zero (by omega)) hb
  | succ f => rw [unp, if_neg hb, if_neg h, if_pos h2]
theorem unp_more {how : Int} {most f : Nat} {out b : List UInt8} (hb : b ≠ []) (hf : b.length ≤ f) (h : ¬ b.length < (firstI how b).size) (h2 : ¬ out.length + (firstI how b).bytes.length < (firstI how b).back) (h3 : most < out.length + (firstI how b).bytes.length + (firstI how b).again) : unp how most f out b = (61, []) := by
  cases f with
  | zero => exact absurd (List.eq_nil_of_length_eq_zero (by omega)) hb
  | succ f => rw [unp, if_neg hb, if_neg h, if_neg h2, if_pos h3]
theorem unp_next {how : Int} {most f : Nat} {out b : List UInt8} (hb : b ≠ []) (hf : b.length ≤ f) (h : ¬ b.length < (firstI how b).size) (h2 : ¬ out.length + (firstI how b).bytes.length < (firstI how b).back) (h3 : ¬ most < out.length + (firstI how b).bytes.length + (firstI how b).again) :
    ∃ f', unp how most f out b = unp how most f' (layI (firstI how b) out) (b.drop (firstI how b).size) ∧ (b.drop (firstI how b).size).length ≤ f' := by
  have h0 : 0 < b.length := List.length_pos_iff.2 hb
  cases f with
  | zero => omega
  | succ f =>
    refine ⟨f, by rw [unp, if_neg hb, if_neg h, if_neg h2, if_neg h3], ?_⟩
    have := sizeI_pos how (b.getD 0 0).toNat h0
    rw [← firstI_size] at this
    rw [List.length_drop]
    omega
def unpackE (how : Int) (bs : List UInt8) (raw : Int) : Int × List UInt8 :=
  if howB how = false ∨ raw < 0 then (1, []) else if 65536 < raw then (4, []) else
    if (unp how raw.toNat bs.length [] bs).1 ≠ 0 then ((unp how raw.toNat bs.length [] bs).1, []) else if ((unp how raw.toNat bs.length [] bs).2.length : Int) < raw then (62, []) else (0, (unp how raw.toNat bs.length [] bs).2)
def sizeE (how : Int) (bs : List UInt8) : Int × Int :=
  if howB how = false then (0, 1) else if (unp how 65536 bs.length [] bs).1 = 61 then (0, 4) else (((unp how 65536 bs.length [] bs).2.length : Int), (unp how 65536 bs.length [] bs).1)
theorem awake3 : unpackE 2 [0, 97, 128, 0, 0] 5 = (0, [97, 97, 97, 97, 97]) := by decide +kernel
theorem awake4 : sizeE 1 [255, 7] = (130, 0) := by decide +kernel
/-! ### the first item -/
set_option maxRecDepth 100000 in
set_option maxHeartbeats 1000000 in
theorem sizeOf_any (how : Int) (c all : Nat) (hc : c < 256) (w : World) : Calls Try.prog 35 #[.int .i64 how, .int .i64 (c : Int), .int .i64 (all : Int)] w fun e w' => e = .returned (.int .i64 (sizeI how c all : Int)) ∧ w = w' := by
  by_cases h0 : how = 0
  · have HH : Hid (sizeI how c all = all) := by show _ = _; unfold sizeI; rw [if_pos h0]
    have h0b : (how == 0) = true := by simp [h0]
    clear h0
    go_enter Try.func35, Try.ntmps35
    go_wp2_with fail
    go_ret
    exact ⟨by rw [HH.out]; rfl, rfl⟩
  have h0b : (how == 0) = false := beqF h0
  by_cases h1 : c < 128
  · have HH : Hid (sizeI how c all = c + 2) := by show _ = _; unfold sizeI; rw [if_neg h0, if_pos h1]
    have h1I : (c : Int) < 128 := by omega
    clear h0
    go_enter Try.func35, Try.ntmps35
    go_wp2_with fail
    go_ret
    exact ⟨by rw [HH.out]; rfl, rfl⟩
  have h1I : ¬ (c : Int) < 128 := by omega
  by_cases h2 : how = 1
  · have HH : Hid (sizeI how c all = 2) := by show _ = _; unfold sizeI; rw [if_neg h0, if_neg h1, if_pos h2]
    have h2b : (how == 1) = true := by simp [h2]
    clear h0 h2
    go_enter Try.func35, Try.ntmps35
    go_wp2_with fail
    go_ret
    exact ⟨by rw [HH.out]; rfl, rfl⟩
  have HH : Hid (sizeI how c all = 3) := by show _ = _; unfold sizeI; rw [if_neg h0, if_neg h1, if_neg h2]
  have h2b : (how == 1) = false := beqF h2
  clear h0 h2
  go_enter Try.func35, Try.ntmps35
  go_wp2_with fail
  go_ret
  exact ⟨by rw [HH.out]; rfl, rfl⟩

end Go.Proofs.Ytknjnclopiklaab.Kit
