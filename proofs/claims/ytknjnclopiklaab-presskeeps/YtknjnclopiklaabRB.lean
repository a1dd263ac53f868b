import Derived.Test.YtknjnclopiklaabRA
namespace Go.Proofs.Ytknjnclopiklaab.Kit
open Go.RowKit Go.Shelf Go.Deep
set_option linter.unusedVariables false
attribute [local go_sem] run_store_func

/-! ### the law of there and back -/
theorem Byts.cap {w W : World} {vo : Option Addr} {vc n : Nat} {bs : List UInt8} (h : Byts w W vo vc n bs) : bs.length ≤ vc := by
  have hl := h.len
  rcases h.own.2 with ⟨e, h0⟩ | ⟨g, cap, cur, e, h1, h2, h3, h4, h5, h6⟩
  · cases e; omega
  · cases e; omega
theorem packE_ok {how : Int} {bs : List UInt8} (hh : howB how = true) (hl : bs.length ≤ 65536) : packE how bs = 0 ∧ packR how bs = packH how bs := by
  have : packE how bs = 0 := by unfold packE; rw [hh, if_neg (by decide), if_neg (by omega)]
  exact ⟨this, by unfold packR; rw [this]; rfl⟩
theorem unpack_back {how : Int} {bs : List UInt8} (hh : howB how = true) (hl : bs.length ≤ 65536) : unpackE how (packH how bs) (bs.length : Int) = (0, bs) := by
  have h := pack_back (m := bs.length) hh hl (Nat.le_refl _)
  unfold unpF at h
  unfold unpackE
  rw [if_neg (by rw [hh]; simp), if_neg (by omega), Int.toNat_natCast, h]
  simp
theorem size_back {how : Int} {bs : List UInt8} (hh : howB how = true) (hl : bs.length ≤ 65536) : sizeE how (packH how bs) = ((bs.length : Int), 0) := by
  have h := pack_back (m := 65536) hh hl hl
  unfold unpF at h
  unfold sizeE
  rw [hh, if_neg (by decide), h]
  simp
end Go.Proofs.Ytknjnclopiklaab.Kit
