import Derived.Test.YtemleibpmaclmaaFF
namespace Go.Proofs.Ytemleibpmaclmaa.Kit
open Go.RowKit Go.Shelf Go.Deep
set_option linter.unusedVariables false
attribute [local go_sem] run_store_func

theorem own_of_block {W : World} {g : Nat} {l : List UInt8} (h : W.heap[g]? = some (.cells (bv l).toArray 5 (0, 0))) (hl : l.length ≤ 140737488355400) : W.ownsRow 0 5 1 (.slice (some ⟨g, 0, none⟩) l.length l.length) l.length (bv l) := by
  refine ⟨by simp [bv], .inr ⟨g, l.length, _, rfl, Nat.zero_le _, h, Nat.le_refl _, ?_, by simp [bv], ?_⟩⟩
  · have : maxLen = 9223372036854775807 := by kernel_rfl
    omega
  · rw [List.take_of_length_le (by simp [bv])]
theorem bv_len (l : List UInt8) : (bv l).length = l.length := by simp [bv]
theorem bv_get {l : List UInt8} {j : Nat} (h : j < l.length) : (bv l)[j]? = some (.int .u8 (l[j].toNat : Int)) := by simp [bv, h]
theorem add_addr (b o j : Nat) : (⟨b, o, none⟩ : Addr).add j = ⟨b, o + j, none⟩ := by cases j <;> simp [Addr.add]
theorem madeCells_toList (n : Nat) : (madeCells #[Value.int .u8 0] n).toList = List.replicate n (.int .u8 0) := by
  apply List.ext_getElem
  · simp [size_madeCells]
  · intro i h1 h2
    simp [madeCells, Nat.mod_one]
def marks : List UInt8 := [171, 171, 171]
def lentAt (l : List UInt8) : Nat → List UInt8
  | 0 => l ++ [0, 0, 0]
  | 1 => l ++ [171, 0, 0]
  | 2 => l ++ [171, 171, 0]
  | _ => l ++ marks
theorem lentAt_set (l : List UInt8) {j : Nat} (hj : j < 3) : (lentAt l j).set (l.length + j) 171 = lentAt l (j + 1) := by
  match j, hj with
  | 0, _ => simp [lentAt]
  | 1, _ => simp [lentAt]
  | 2, _ => simp [lentAt, marks]
theorem lentAt_len (l : List UInt8) (j : Nat) : (lentAt l j).length = l.length + 3 := by
  match j with
  | 0 => simp [lentAt]
  | 1 => simp [lentAt]
  | 2 => simp [lentAt]
  | _ + 3 => simp [lentAt, marks]
set_option maxRecDepth 100000 in
set_option maxHeartbeats 2000000 in
theorem lent_any {ao : Option Addr} {ac : Nat} {l : List UInt8} {w : World} (h : BytesAt w ao l) (hl : l.length ≤ 140737488355300) :
    Calls Try.prog 8 #[.slice ao l.length ac] w fun e w' => ∃ g, e = .returned (.slice (some ⟨g, 0, none⟩) (l.length + 3) (l.length + 3)) ∧ Byts w w' (some ⟨g, 0, none⟩) (l.length + 3) (l.length + 3) (l ++ marks) := by
  obtain ⟨L, hL⟩ : ∃ L, L = l.length := ⟨_, rfl⟩
  have HL := hidM hL
  have HB := hidM h
  rw [← hL] at hl ⊢
  have hmk := run_make_row' (P := Try.prog) 22 5 (.int .u8 0) 1 Try.underlying22 info5 rfl .i64 .i64 (L + 3) (by omega) (by omega)
  have ec : ((L + 3 : Nat) : Int) = (L : Int) + 3 := by omega
  rw [ec] at hmk
  obtain ⟨cs, hcs⟩ : ∃ cs : List Value, cs = bv l := ⟨_, rfl⟩
  have HC := hidM hcs
  obtain ⟨cur, hcur⟩ : ∃ cur : List Value, cur = (madeCells #[.int .u8 0] (L + 3)).toList := ⟨_, rfl⟩
  have HCur := hidM hcur
  clear h hL hcs hcur
  go_enter Try.func8, Try.ntmps8
  go_wp2_with (with_reducible show wpList Try.prog _ _ (Oper.mk (some 11) _ _ _ _ _ :: _) _ _; refine wpList_copy_splice rfl (.tmp 9) (.tmp 10) 22 22 rfl 5 Try.underlying22 size5 _ _ _ _ _ _ rfl rfl w.heap.size 0 cur 5 ?hg cs ?hn ?hpos ?hfit ?h1 w.heap.size w ?hb (Nat.le_refl _) ?_)
  case hg => rw [HCur.out]; simpa using heap_alloc_new w _
  case hn => rw [HC.out, bv_len, ← HL.out]; exact (Nat.min_eq_left (Nat.le_add_right L 3)).symm
  case hpos =>
    intro hp
    rw [HC.out] at hp ⊢
    rw [bv_len] at hp
    obtain ⟨b1, o1, e1, h1⟩ := HB.out (fun e => by rw [e] at hp; simp at hp)
    refine ⟨⟨b1, o1, none⟩, e1, fun j v hj => ?_⟩
    have hjl : j < l.length := by have := (List.getElem?_eq_some_iff.1 hj).1; rw [bv_len] at this; exact this
    have hc := ((Keeps.refl w (fun _ => False)).alloc (.cells cur.toArray 5)).cell' (h1 j hjl) id
    rw [add_addr]
    have e2 : v = .int .u8 (l[j].toNat : Int) := by rw [bv_get hjl] at hj; cases hj; rfl
    rw [e2]
    rw [HCur.out] at hc
    simpa using hc
  case hfit => rw [HC.out, HCur.out, bv_len, ← HL.out]; simp [size_madeCells]
  case h1 =>
    intro v hv
    rw [HC.out] at hv
    obtain ⟨z, _, rfl⟩ := List.mem_map.1 hv
    rfl
  case hb => exact (Below.refl _ _).alloc (Nat.le_refl _) _
  intro w1 HG1 hB1
  have HA : Hid (Byts w w1 (some ⟨w.heap.size, 0, none⟩) (L + 3) (L + 3) (lentAt l 0)) := by
    have h1 := HG1.out
    have e : splice cur 0 cs = bv (lentAt l 0) := by
      rw [HC.out, HCur.out]
      show splice (madeCells #[Value.int .u8 0] (L + 3)).toList 0 (bv l) = bv (l ++ [0, 0, 0])
      unfold splice
      rw [bv_app, bv_len, ← HL.out, madeCells_toList]
      rw [List.take_zero, List.drop_replicate, show L + 3 - (0 + L) = 3 by omega]
      rfl
    rw [e] at h1
    have h2 := own_of_block h1 (by rw [lentAt_len, ← HL.out]; omega)
    rw [lentAt_len, ← HL.out] at h2
    refine ⟨h2, (Keeps.ofBelow hB1).mono fun b hb h => by omega, fun g e => ?_⟩
    have : w.heap.size = g := by simpa [Value.ownBlock] using e
    omega
  clear HG1 hB1 hmk HCur HC
  obtain ⟨G, hG⟩ : ∃ G, G = w.heap.size := ⟨_, rfl⟩
  rw [← hG] at HA ⊢
  clear hG
  have HAp := hidM (Ap.refl HA.out)
  go_wp2_with fail
  go_loopw [4] (fun q wr => ∃ k j : Nat, k ≤ L + 3 ∧ q = .int .i64 (k : Int) ∧ Hid (k = L + j ∧ Ap w w1 wr (some ⟨G, 0, none⟩) (L + 3) (L + 3) (some ⟨G, 0, none⟩) (L + 3) (L + 3) (lentAt l j))) (fun q _ => L + 3 - (intOf q).toNat)
  case atStart => exact ⟨L, 0, by omega, rfl, rfl, HAp.out⟩
  case round =>
    obtain ⟨k, j, hk, rfl, HR⟩ := hrel
    clear HAp HA
    by_cases c : k < L + 3
    · have cI : (k : Int) < (L : Int) + 3 := by omega
      have hk0 : (0 : Int) ≤ (k : Int) := by omega
      obtain ⟨hkj, hA⟩ := HR.out
      obtain ⟨X, hX, z0, z1, z2⟩ := hA.set c
      cases hX
      have HNx := hidM (z2 171)
      rw [hkj, HL.out, lentAt_set l (by omega)] at HNx
      obtain ⟨z, hz⟩ : ∃ z : Int, z = (((lentAt l j).getD k 0).toNat : Int) := ⟨_, rfl⟩
      rw [← hz] at z0
      rw [← HL.out, ← hkj] at HNx
      have HKJ := hidM hkj
      clear hA z2 hz HR hkj
      go_wp2_with fail
      go_roundw
      case rel => exact ⟨k + 1, j + 1, by omega, by simp, by have := HKJ.out; omega, HNx.out⟩
      case measure => simp [intOf]; omega
    · have cI : ¬ (k : Int) < (L : Int) + 3 := by omega
      obtain ⟨hkj, hA⟩ := HR.out
      have hj : j = 3 := by omega
      subst hj
      have HE := hidM hA.b
      clear hA HR
      go_wp2_with fail
      go_ret
      exact ⟨G, rfl, HE.out⟩
end Go.Proofs.Ytemleibpmaclmaa.Kit
