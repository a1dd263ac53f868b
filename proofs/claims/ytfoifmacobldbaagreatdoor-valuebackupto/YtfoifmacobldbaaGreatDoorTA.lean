import Derived.Test.YtfoifmacobldbaaGreatDoorPD
import Derived.Test.YtfoifmacobldbaaGreatDoorVD
import Derived.Test.YtfoifmacobldbaaGreatDoorNF
import Derived.Deep.RegionHeld3
set_option maxRecDepth 100000
set_option maxHeartbeats 4000000
namespace Go.Proofs.YtfoifmacobldbaaGreatDoor.Kit
open Go.RowKit Go.Shelf Go.Deep
set_option linter.unusedVariables false
set_option linter.unusedSimpArgs false
attribute [local go_sem] run_store_func
/-! ### the text of Bytes -/
def ds (s : ByteArray) (k : Nat) : List UInt8 := [120, 34] ++ (s.data.toList.take k).flatMap QF.hex2
theorem ds_succ (s : ByteArray) (k : Nat) (h : k < s.size) : ds s (k + 1) = ds s k ++ QF.hex2 (s[k]'h) := by
  have hb : s.data.toList[k]? = some (s[k]'h) := by rw [Array.getElem?_toList]; exact Array.getElem?_eq_getElem h
  unfold ds
  rw [List.take_add_one, hb, List.flatMap_append]
  simp
theorem ds_all (s : ByteArray) : ds s s.size = [120, 34] ++ s.data.toList.flatMap QF.hex2 := by
  unfold ds
  rw [List.take_of_length_le (by simp)]
theorem digits47 (s : ByteArray) (hs : s.size ≤ 100000000000) (w : World × World) (W : World) (vo : Option Addr) (vc n : Nat) (bs : List UInt8) (HK : Hid (Byts w W vo vc n bs)) (hn : n < 1000000000000) : Calls Tryz.prog 47 #[.slice vo n vc, .string s] W fun e W' => ∃ vo' vc' n', e = .returned (.slice vo' n' vc') ∧ Byts w W' vo' vc' n' (bs ++ (ds s s.size ++ [34])) := by
  go_enter Tryz.func47, Tryz.ntmps47
  go_wp2_with (at_builtin; refine Hid.out ?_)
  unfold Hid
  refine wpList_append_any _ rfl (.tmp 6) (.const (.string ⟨#[120, 34]⟩)) 52 9 rfl 5 (.int .u8 0) 1 Tryz.underlying52 info5 rfl _ n (bv bs) rfl HK.out.own _ 2 [.int .u8 120, .int .u8 34] rfl (Src.ofString (w := W) (P := Tryz.prog) Tryz.underlying9 ⟨#[120, 34]⟩) (by omega) (by omega) ?_
  intro v' w1 hown hgrow hblk
  obtain ⟨vo1, vc1, rfl⟩ := own_formN hown
  have H1 : Hid (Byts w w1 vo1 vc1 (n + 2) (bs ++ ds s 0)) := HK.out.app (us := ds s 0) (by simp [ds, bv]) hown hgrow hblk
  clear hown hgrow hblk HK
  go_wp2_with fail
  go_loopw [0, 10] (fun v i wr => ∃ (k m : Nat) (vo : Option Addr) (vc : Nat), k ≤ s.size ∧ m ≤ n + 2 + 2 * k ∧ i = .int .i64 (k : Int) ∧ v = .slice vo m vc ∧ Hid (Byts w wr vo vc m (bs ++ ds s k))) (fun _ i _ => s.size - (intOf i).toNat)
  case atStart => exact ⟨0, n + 2, vo1, vc1, by omega, by omega, rfl, rfl, H1⟩
  case round =>
    obtain ⟨k, m, vo2, vc2, hk, hm, rfl, rfl, HB⟩ := hrel
    clear H1
    by_cases hlt : k < s.size
    · have HQ : Hid (ds s (k + 1) = ds s k ++ QF.hex2 (s[k]'hlt)) := ds_succ s k hlt
      have hC : (s[k]'hlt).toNat < 256 := UInt8.toNat_lt _
      have hbt := bits_and15 (s[k]'hlt).toNat hC
      have hx1 : ∀ w, (Instr.index 9 (.string ⟨#[48, 49, 50, 51, 52, 53, 54, 55, 56, 57, 97, 98, 99, 100, 101, 102]⟩) (.int .u8 (((s[k]'hlt).toNat : Int) / 16))).run Tryz.prog w = .ok (.int .u8 ((QC.hexD ((s[k]'hlt).toNat / 16)).toNat : Int)) w := by
        have h := index_hexP ((s[k]'hlt).toNat / 16) (by omega)
        rwa [Int.natCast_ediv] at h
      have hx2 : ∀ w, (Instr.index 9 (.string ⟨#[48, 49, 50, 51, 52, 53, 54, 55, 56, 57, 97, 98, 99, 100, 101, 102]⟩) (.int .u8 (((s[k]'hlt).toNat : Int) % 16))).run Tryz.prog w = .ok (.int .u8 ((QC.hexD ((s[k]'hlt).toNat % 16)).toNat : Int)) w := by
        have h := index_hexP ((s[k]'hlt).toNat % 16) (by omega)
        rwa [Int.natCast_emod] at h
      go_wp2_with fail
      refine wp_region_held_drew (S := fun w' => Hid (∃ vo vc n bs, Byts w w' vo vc n bs)) (by kernel_rfl) (⟨_, _, _, _, HB.out.gr' gr_drew⟩) (fun hHeld => ?_)
      refine wpAnyH_take (i := 0) (oi := { dst := some 13, op := Op.move (Operand.tmp 0), type := 52, pos := "print.go:86", after := #[], guard := none }) (v := ?v0u1) rfl (by kernel_rfl) (by kernel_rfl) (by kernel_rfl) (fun _ _ _ h => h) (Or.inl ⟨by rfl, ?y0u1⟩) (by assumption) ?r0u1
      case y0u1 => (intro w hSw; go_simp; (try with_reducible rfl))
      (try simp only [Act.put]); (try simp only [List.setIfInBounds_toArray]); (try simp only [List.set_cons_succ]); (try simp only [List.set_cons_zero])
      refine wpAnyH_take (i := 1) (oi := { dst := some 14, op := Op.move (Operand.tmp 1), type := 9, pos := "print.go:86", after := #[], guard := none }) (v := ?v1u2) rfl (by kernel_rfl) (by kernel_rfl) (by kernel_rfl) (fun _ _ _ h => h) (Or.inl ⟨by rfl, ?y1u2⟩) (by assumption) ?r1u2
      case y1u2 => (intro w hSw; go_simp; (try with_reducible rfl))
      (try simp only [Act.put]); (try simp only [List.setIfInBounds_toArray]); (try simp only [List.set_cons_succ]); (try simp only [List.set_cons_zero])
      refine wpAnyH_take (i := 2) (oi := { dst := some 15, op := Op.move (Operand.tmp 5), type := 3, pos := "print.go:86", after := #[], guard := none }) (v := ?v2u3) rfl (by kernel_rfl) (by kernel_rfl) (by kernel_rfl) (fun _ _ _ h => h) (Or.inl ⟨by rfl, ?y2u3⟩) (by assumption) ?r2u3
      case y2u3 => (intro w hSw; go_simp; (try with_reducible rfl))
      (try simp only [Act.put]); (try simp only [List.setIfInBounds_toArray]); (try simp only [List.set_cons_succ]); (try simp only [List.set_cons_zero])
      refine wpAnyH_take (i := 3) (oi := { dst := some 16, op := Op.index 9 (Operand.tmp 14) (Operand.tmp 15), type := 5, pos := "print.go:86", after := #[{ on := 1, ground := Ground.data }, { on := 2, ground := Ground.data }], guard := none }) (v := ?v3u4) rfl (by kernel_rfl) (by kernel_rfl) (by kernel_rfl) (fun _ _ _ h => h) (Or.inl ⟨by rfl, ?y3u4⟩) (by assumption) ?r3u4
      case y3u4 => (intro w hSw; go_simp; (try with_reducible rfl))
      (try simp only [Act.put]); (try simp only [List.setIfInBounds_toArray]); (try simp only [List.set_cons_succ]); (try simp only [List.set_cons_zero])
      refine wpAnyH_take (i := 4) (oi := { dst := some 17, op := Op.binOp BinOp.shr 5 (Operand.tmp 16) (Operand.const (Value.int IntKind.u64 4)) 98, type := 5, pos := "print.go:86", after := #[{ on := 3, ground := Ground.data }], guard := none }) (v := ?v4u5) rfl (by kernel_rfl) (by kernel_rfl) (by kernel_rfl) (fun _ _ _ h => h) (Or.inl ⟨by rfl, ?y4u5⟩) (by assumption) ?r4u5
      case y4u5 => (intro w hSw; go_simp; (try with_reducible rfl))
      (try simp only [Act.put]); (try simp only [List.setIfInBounds_toArray]); (try simp only [List.set_cons_succ]); (try simp only [List.set_cons_zero])
      refine wpAnyH_take (i := 5) (oi := { dst := some 18, op := Op.index 9 (Operand.const (Value.string { data := #[48, 49, 50, 51, 52, 53, 54, 55, 56, 57, 97, 98, 99, 100, 101, 102] })) (Operand.tmp 17), type := 5, pos := "print.go:86", after := #[{ on := 4, ground := Ground.data }], guard := none }) (v := ?v5u6) rfl (by kernel_rfl) (by kernel_rfl) (by kernel_rfl) (fun _ _ _ h => h) (Or.inl ⟨by rfl, ?y5u6⟩) (by assumption) ?r5u6
      case y5u6 => (intro w hSw; go_simp; (try with_reducible rfl))
      (try simp only [Act.put]); (try simp only [List.setIfInBounds_toArray]); (try simp only [List.set_cons_succ]); (try simp only [List.set_cons_zero])
      refine wpAnyH_take (i := 6) (oi := { dst := some 19, op := Op.move (Operand.tmp 1), type := 9, pos := "print.go:86", after := #[], guard := none }) (v := ?v6u7) rfl (by kernel_rfl) (by kernel_rfl) (by kernel_rfl) (fun _ _ _ h => h) (Or.inl ⟨by rfl, ?y6u7⟩) (by assumption) ?r6u7
      case y6u7 => (intro w hSw; go_simp; (try with_reducible rfl))
      (try simp only [Act.put]); (try simp only [List.setIfInBounds_toArray]); (try simp only [List.set_cons_succ]); (try simp only [List.set_cons_zero])
      refine wpAnyH_take (i := 7) (oi := { dst := some 20, op := Op.move (Operand.tmp 5), type := 3, pos := "print.go:86", after := #[], guard := none }) (v := ?v7u8) rfl (by kernel_rfl) (by kernel_rfl) (by kernel_rfl) (fun _ _ _ h => h) (Or.inl ⟨by rfl, ?y7u8⟩) (by assumption) ?r7u8
      case y7u8 => (intro w hSw; go_simp; (try with_reducible rfl))
      (try simp only [Act.put]); (try simp only [List.setIfInBounds_toArray]); (try simp only [List.set_cons_succ]); (try simp only [List.set_cons_zero])
      refine wpAnyH_take (i := 8) (oi := { dst := some 21, op := Op.index 9 (Operand.tmp 19) (Operand.tmp 20), type := 5, pos := "print.go:86", after := #[{ on := 6, ground := Ground.data }, { on := 7, ground := Ground.data }], guard := none }) (v := ?v8u9) rfl (by kernel_rfl) (by kernel_rfl) (by kernel_rfl) (fun _ _ _ h => h) (Or.inl ⟨by rfl, ?y8u9⟩) (by assumption) ?r8u9
      case y8u9 => (intro w hSw; go_simp; (try with_reducible rfl))
      (try simp only [Act.put]); (try simp only [List.setIfInBounds_toArray]); (try simp only [List.set_cons_succ]); (try simp only [List.set_cons_zero])
      refine wpAnyH_take (i := 9) (oi := { dst := some 22, op := Op.binOp BinOp.and 5 (Operand.tmp 21) (Operand.const (Value.int IntKind.u8 15)) 5, type := 5, pos := "print.go:86", after := #[{ on := 8, ground := Ground.data }], guard := none }) (v := ?v9u10) rfl (by kernel_rfl) (by kernel_rfl) (by kernel_rfl) (fun _ _ _ h => h) (Or.inl ⟨by rfl, ?y9u10⟩) (by assumption) ?r9u10
      case y9u10 => (intro w hSw; go_simp; (try with_reducible rfl))
      (try simp only [Act.put]); (try simp only [List.setIfInBounds_toArray]); (try simp only [List.set_cons_succ]); (try simp only [List.set_cons_zero])
      refine wpAnyH_take (i := 10) (oi := { dst := some 23, op := Op.index 9 (Operand.const (Value.string { data := #[48, 49, 50, 51, 52, 53, 54, 55, 56, 57, 97, 98, 99, 100, 101, 102] })) (Operand.tmp 22), type := 5, pos := "print.go:86", after := #[{ on := 9, ground := Ground.data }], guard := none }) (v := ?v10u11) rfl (by kernel_rfl) (by kernel_rfl) (by kernel_rfl) (fun _ _ _ h => h) (Or.inl ⟨by rfl, ?y10u11⟩) (by assumption) ?r10u11
      case y10u11 => (intro w hSw; go_simp; (try with_reducible rfl))
      (try simp only [Act.put]); (try simp only [List.setIfInBounds_toArray]); (try simp only [List.set_cons_succ]); (try simp only [List.set_cons_zero])
      refine wpAnyH_ready (rs := [11]) (by kernel_rfl) (by simp) ?_
      refine AllReadyH.cons (o := { dst := some 24, op := Op.buildSlice 52 2 #[(0, Operand.tmp 18), (1, Operand.tmp 23)], type := 52, pos := "print.go:86", after := #[{ on := 5, ground := Ground.data }, { on := 10, ground := Ground.data }], guard := none }) rfl (fun Kc hK => ?_) AllReadyH.nil
      go_simp
      refine hK.out _ _ (⟨_, _, _, _, HB.out.gr' (by first | exact (gr_alloc _ _).trans gr_drew (fun _ _ h => h) | exact gr_drew.trans (gr_alloc _ _) (fun _ _ h => h))⟩) (fun hHeld => ?_)
      clear hK Kc
      (try simp only [Act.put]); (try simp only [List.setIfInBounds_toArray]); (try simp only [List.set_cons_succ]); (try simp only [List.set_cons_zero])
      refine wpAnyH_ready (rs := [12]) (by kernel_rfl) (by simp) ?_
      refine AllReadyH.cons (o := { dst := some 25, op := Op.call { callee := Callee.builtin Builtin.append, args := #[Operand.tmp 13, Operand.tmp 24], argTypes := #[52, 52] }, type := 52, pos := "print.go:86", after := #[{ on := 0, ground := Ground.data }, { on := 11, ground := Ground.data }], guard := none }) rfl (fun Kc hK => ?_) AllReadyH.nil
      have HGD : Hid (Gr wr (wr.drew.alloc (.cells #[.int .u8 ((QC.hexD ((s[k]'hlt).toNat / 16)).toNat : Int), .int .u8 ((QC.hexD ((s[k]'hlt).toNat % 16)).toNat : Int)] 5))) := (gr_drew).trans (gr_alloc _ _) (fun _ _ h => h)
      refine step_append_any _ rfl (.tmp 13) (.tmp 24) 52 52 rfl 5 (.int .u8 0) 1 Tryz.underlying52 info5 rfl (.slice vo2 m vc2) m (bv (bs ++ ds s k)) rfl (HB.out.gr' HGD.out).own _ 2 [.int .u8 ((QC.hexD ((s[k]'hlt).toNat / 16)).toNat : Int), .int .u8 ((QC.hexD ((s[k]'hlt).toNat % 16)).toNat : Int)] rfl (src_u8 wr.drew [.int .u8 ((QC.hexD ((s[k]'hlt).toNat / 16)).toNat : Int), .int .u8 ((QC.hexD ((s[k]'hlt).toNat % 16)).toNat : Int)] 2 rfl (by simp)) (by omega) (by omega) ?_
      intro v' w1 hown hgrow hblk
      obtain ⟨vo', vc', rfl⟩ := own_formN hown
      have HN : Hid (Byts w w1 vo' vc' (m + 2) (bs ++ ds s (k + 1))) := by
        rw [HQ.out, ← List.append_assoc]
        exact (HB.out.gr' HGD.out).app (us := QF.hex2 (s[k]'hlt)) rfl hown hgrow hblk
      refine hK.out _ _ ⟨_, _, _, _, HN.out⟩ (fun hHeld => ?_)
      clear hK Kc hown hgrow hblk
      (try simp only [Act.put]); (try simp only [List.setIfInBounds_toArray]); (try simp only [List.set_cons_succ]); (try simp only [List.set_cons_zero])
      refine wpAnyH_take (i := 13) (oi := { dst := some 0, op := Op.assign (Operand.tmp 25), type := 52, pos := "print.go:86", after := #[{ on := 12, ground := Ground.data }, { on := 12, ground := Ground.chain }, { on := 0, ground := Ground.phase }, { on := 1, ground := Ground.phase }, { on := 2, ground := Ground.phase }, { on := 3, ground := Ground.phase }, { on := 4, ground := Ground.phase }, { on := 5, ground := Ground.phase }, { on := 6, ground := Ground.phase }, { on := 7, ground := Ground.phase }, { on := 8, ground := Ground.phase }, { on := 9, ground := Ground.phase }, { on := 10, ground := Ground.phase }, { on := 11, ground := Ground.phase }, { on := 12, ground := Ground.phase }], guard := none }) (v := ?v13u12) rfl (by kernel_rfl) (by kernel_rfl) (by kernel_rfl) (fun _ _ _ h => h) (Or.inl ⟨by rfl, ?y13u12⟩) (by assumption) ?r13u12
      case y13u12 => (intro w hSw; go_simp; (try with_reducible rfl))
      (try simp only [Act.put]); (try simp only [List.setIfInBounds_toArray]); (try simp only [List.set_cons_succ]); (try simp only [List.set_cons_zero])
      refine wpAnyH_done (by kernel_rfl) ?_ _
      clear hHeld
      go_wp2_with fail
      go_roundw
      case rel => exact ⟨k + 1, m + 2, vo', vc', by omega, by omega, by simp, rfl, HN⟩
      case measure => simp [intOf]; omega
    · obtain rfl : k = s.size := by omega
      go_wp2_with (at_builtin; refine Hid.out ?_)
      unfold Hid
      refine wpList_append_any _ rfl (.tmp 27) (.tmp 28) 52 52 rfl 5 (.int .u8 0) 1 Tryz.underlying52 info5 rfl _ m (bv (bs ++ ds s s.size)) rfl (HB.out.gr' (gr_alloc wr _)).own _ 1 [.int .u8 34] rfl (src_u8 wr [.int .u8 34] 1 rfl (by simp)) (by omega) (by omega) ?_
      intro v' w1 hown hgrow hblk
      obtain ⟨vo', vc', rfl⟩ := own_formN hown
      have HN : Hid (Byts w w1 vo' vc' (m + 1) (bs ++ (ds s s.size ++ [34]))) := by
        rw [← List.append_assoc]
        exact (HB.out.gr' (gr_alloc wr _)).app (us := [34]) rfl hown hgrow hblk
      clear hown hgrow hblk HB
      go_wp2_with fail
      go_ret
      exact ⟨_, _, _, rfl, HN.out⟩
end Go.Proofs.YtfoifmacobldbaaGreatDoor.Kit
namespace Go.Proofs.YtfoifmacobldbaaGreatDoor.Kit
open Go.RowKit Go.Shelf Go.Deep
set_option linter.unusedVariables false
attribute [local go_sem] run_store_func
/-! ### the scale, and a value that is weighed -/
structure Sc (w W : World) (sb : Nat) (l : Int) : Prop where
  kp : Keeps w W (fun k => k = sb)
  bx : W.heap[sb]? = some (.cells #[.int .i64 l] 79)
def FitQ (w : World) (sb : Nat) (x : Option Int) (e : Ending) (w' : World) : Prop := ∃ l', e = .returned (.bool x.isSome) ∧ Sc w w' sb l' ∧ ∀ l1, x = some l1 → l' = l1
theorem FitQ.no {w w' : World} {sb : Nat} {x : Option Int} {l : Int} {e : Ending} (hx : x = none) (he : e = .returned (.bool false)) (h : Sc w w' sb l) : FitQ w sb x e w' := ⟨l, by rw [he, hx]; rfl, h, fun _ h => by rw [hx] at h; cases h⟩
theorem FitQ.yes {w w' : World} {sb : Nat} {x : Option Int} {l : Int} {e : Ending} (hx : x = some l) (he : e = .returned (.bool true)) (h : Sc w w' sb l) : FitQ w sb x e w' := ⟨l, by rw [he, hx]; rfl, h, fun _ h => by rw [hx] at h; exact Option.some.inj h⟩
theorem FitQ.of {w w' : World} {sb : Nat} {x y : Option Int} {l : Int} {e : Ending} (hx : x = y) (he : e = .returned (.bool y.isSome)) (h : Sc w w' sb l) (hl : ∀ l1, y = some l1 → l = l1) : FitQ w sb x e w' := by subst hx; exact ⟨l, he, h, hl⟩
/-- a call with the scale answers whether it fits, and leaves what is left -/
def FitC (w : World) (sb F : Nat) (a b : Value) (r : Int → Option Int) : Prop :=
  ∀ W l, Sc w W sb l → 0 ≤ l → l ≤ 4194304 → Calls Tryz.prog F #[.pointer (some ⟨sb, 0, none⟩), a, b] W fun e w' => FitQ W sb (r l) e w'
theorem Sc.alloc {w W : World} {sb : Nat} {l : Int} (h : Sc w W sb l) (o : Obj) : Sc w (W.alloc o) sb l :=
  ⟨h.kp.alloc o, (Below.heap_alloc W o sb (lt_of_heap h.bx)).trans h.bx⟩
theorem Sc.set {w W : World} {sb : Nat} {l : Int} (h : Sc w W sb l) (l' : Int) : Sc w (W.setCell ⟨sb, 0, none⟩ (.int .i64 l')) sb l' := by
  refine ⟨h.kp.setCell (fun _ => rfl) _, ?_⟩
  have hb := lt_of_heap h.bx
  have hx := h.bx
  simp only [World.setCell]
  rw [Array.getElem?_modify]
  simp [hx]
theorem Sc.drew {w W : World} {sb : Nat} {l : Int} (h : Sc w W sb l) : Sc w W.drew sb l := ⟨h.kp.drew, h.bx⟩
theorem Sc.cell {w W : World} {sb : Nat} {l : Int} (h : Sc w W sb l) : W.cell? ⟨sb, 0, none⟩ = some (.int .i64 l) := by
  have hx := h.bx
  simp [World.cell?, hx]
theorem Sc.frz {w W : World} {sb : Nat} {l : Int} (h : Sc w W sb l) : W.frozen? ⟨sb, 0, none⟩ = false := by
  have hx := h.bx
  simp [World.frozen?, hx]
theorem Sc.lt {w W : World} {sb : Nat} {l : Int} (h : Sc w W sb l) : sb < W.heap.size := lt_of_heap h.bx
/-- a field's box, a value's box -/
def B7 (W : World) (B : Nat) (f0 : ByteArray) (f1 : Bool) (f2 f3 f4 f5 : Int) (ao : Option Addr) (n ca : Nat) : Prop := W.heap[B]? = some (.cells #[.string f0, .bool f1, .int .i64 f2, .int .i64 f3, .int .i64 f4, .int .i64 f5, .slice ao n ca] 26)
def B4 (W : World) (B : Nat) (v0 : Bool) (v1 : Int) (v2 : ByteArray) (vo : Option Addr) (m vc : Nat) : Prop := W.heap[B]? = some (.cells #[.bool v0, .int .i64 v1, .string v2, .slice vo m vc] 29)
theorem B7.cells {W : World} {B : Nat} {f0 : ByteArray} {f1 : Bool} {f2 f3 f4 f5 : Int} {ao : Option Addr} {n ca : Nat} (h : B7 W B f0 f1 f2 f3 f4 f5 ao n ca) :
    W.cell? ⟨B, 0, none⟩ = some (.string f0) ∧ W.cell? ⟨B, 1, none⟩ = some (.bool f1) ∧ W.cell? ⟨B, 2, none⟩ = some (.int .i64 f2) ∧ W.cell? ⟨B, 3, none⟩ = some (.int .i64 f3) ∧ W.cell? ⟨B, 4, none⟩ = some (.int .i64 f4) ∧ W.cell? ⟨B, 5, none⟩ = some (.int .i64 f5) ∧ W.cell? ⟨B, 6, none⟩ = some (.slice ao n ca) := by
  unfold B7 at h
  simp [World.cell?, h]
theorem B4.cells {W : World} {B : Nat} {v0 : Bool} {v1 : Int} {v2 : ByteArray} {vo : Option Addr} {m vc : Nat} (h : B4 W B v0 v1 v2 vo m vc) :
    W.cell? ⟨B, 0, none⟩ = some (.bool v0) ∧ W.cell? ⟨B, 1, none⟩ = some (.int .i64 v1) ∧ W.cell? ⟨B, 2, none⟩ = some (.string v2) ∧ W.cell? ⟨B, 3, none⟩ = some (.slice vo m vc) := by
  unfold B4 at h
  simp [World.cell?, h]

theorem Sc.gr {w W W' : World} {sb : Nat} {l : Int} (h : Sc w W sb l) (g : Gr W W') : Sc w W' sb l := ⟨h.kp.trans g (fun _ _ h => h.elim), (g.block sb h.lt id).trans h.bx⟩
theorem Sc.base {w V W : World} {sb : Nat} {l : Int} (h : Sc V W sb l) (k : Keeps w V (fun k => k = sb)) : Sc w W sb l := ⟨k.trans h.kp (fun _ _ h => h), h.bx⟩
theorem Sc.self {w W : World} {sb : Nat} {l : Int} (h : Sc w W sb l) : Sc W W sb l := ⟨Keeps.refl _ _, h.bx⟩
theorem Sc.other {V W : World} {sb : Nat} {l : Int} (h : Sc V W sb l) {b o : Nat} {v : Value} (hc : V.cell? ⟨b, o, none⟩ = some v) (hb : b ≠ sb) : W.cell? ⟨b, o, none⟩ = some v := h.kp.cell' hc hb
def B5 (W : World) (B : Nat) (f2 f3 f4 f5 : Int) (ao : Option Addr) (n ca : Nat) : Prop := W.heap[B]? = some (.cells #[.int .i64 f2, .int .i64 f3, .int .i64 f4, .int .i64 f5, .slice ao n ca] 24)
theorem B5.cells {W : World} {B : Nat} {f2 f3 f4 f5 : Int} {ao : Option Addr} {n ca : Nat} (h : B5 W B f2 f3 f4 f5 ao n ca) :
    W.cell? ⟨B, 0, none⟩ = some (.int .i64 f2) ∧ W.cell? ⟨B, 1, none⟩ = some (.int .i64 f3) ∧ W.cell? ⟨B, 2, none⟩ = some (.int .i64 f4) ∧ W.cell? ⟨B, 3, none⟩ = some (.int .i64 f5) ∧ W.cell? ⟨B, 4, none⟩ = some (.slice ao n ca) := by
  unfold B5 at h
  simp [World.cell?, h]
theorem alloc3 (W : World) (a b c : Obj) : (((W.alloc a).alloc b).alloc c).drew.heap[W.heap.size]? = some a ∧ (((W.alloc a).alloc b).alloc c).drew.heap[W.heap.size + 1]? = some b ∧ (((W.alloc a).alloc b).alloc c).drew.heap[W.heap.size + 1 + 1]? = some c ∧ Gr W (((W.alloc a).alloc b).alloc c).drew := by
  have s1 : (W.alloc a).heap.size = W.heap.size + 1 := by simp
  have s2 : ((W.alloc a).alloc b).heap.size = W.heap.size + 1 + 1 := by simp
  refine ⟨?_, ?_, ?_, ((((Keeps.refl W _).alloc a).alloc b).alloc c).drew⟩
  · exact (Below.heap_alloc ((W.alloc a).alloc b) c W.heap.size (by omega)).trans ((Below.heap_alloc (W.alloc a) b W.heap.size (by omega)).trans (heap_alloc_new W a))
  · refine (Below.heap_alloc ((W.alloc a).alloc b) c (W.heap.size + 1) (by omega)).trans ?_
    have := heap_alloc_new (W.alloc a) b
    rw [s1] at this
    exact this
  · have := heap_alloc_new ((W.alloc a).alloc b) c
    rw [s2] at this
    exact this
theorem fits_walk (f0 : ByteArray) (f1 : Bool) (f2 f3 f4 f5 : Int) (ao : Option Addr) (n ca : Nat) (v0 : Bool) (v1 : Int) (v2 : ByteArray) (vo : Option Addr) (m vc : Nat) (w : World) (sb : Nat) (r : Int → Option Int) (hv2 : v2.size ≤ big)
    (h70 : FitC w sb 76 (.agg #[.string f0, .bool f1, .int .i64 f2, .int .i64 f3, .int .i64 f4, .int .i64 f5, .slice ao n ca]) (.agg #[.bool v0, .int .i64 v1, .string v2, .slice vo m vc]) r) :
    FitC w sb 43 (.agg #[.string f0, .bool f1, .int .i64 f2, .int .i64 f3, .int .i64 f4, .int .i64 f5, .slice ao n ca]) (.agg #[.bool v0, .int .i64 v1, .string v2, .slice vo m vc]) (fun l => if (16 + v2.size : Int) ≤ l then r (l - (16 + v2.size)) else none) := by
  intro W l hs h0 h1
  have h70 := hidM h70
  have hz : v2.size ≤ 1000000000000 := hv2
  have hw1 : wrap64 (16 + (v2.size : Int)) = 16 + v2.size := by unfold wrap64; omega
  have hw2 : wrap64 (l - (16 + (v2.size : Int))) = l - (16 + v2.size) := by unfold wrap64; omega
  have c0 : ∀ o o', ((W.alloc o).alloc o').cell? ⟨sb, 0, none⟩ = some (.int .i64 l) := fun o o' => ((hs.alloc o).alloc o').cell
  have z0 : ∀ o o', ((W.alloc o).alloc o').frozen? ⟨sb, 0, none⟩ = false := fun o o' => ((hs.alloc o).alloc o').frz
  obtain ⟨V2, hV2⟩ : ∃ V2, ((W.alloc (.cells #[.string f0, .bool f1, .int .i64 f2, .int .i64 f3, .int .i64 f4, .int .i64 f5, .slice ao n ca] 26)).alloc (.cells #[.bool v0, .int .i64 v1, .string v2, .slice vo m vc] 29)).setCell ⟨sb, 0, none⟩ (.int .i64 (l - (16 + v2.size))) = V2 := ⟨_, rfl⟩
  have HS : Hid (Sc W V2 sb (l - (16 + v2.size))) := by rw [← hV2]; exact ((hs.self.alloc _).alloc _).set _
  have HK := hidM hs.kp
  have hne := hs.lt
  have b7 : B7 V2 W.heap.size f0 f1 f2 f3 f4 f5 ao n ca := by
    unfold B7
    rw [← hV2, heap_setCell_other _ ⟨sb, 0, none⟩ _ _ (by show W.heap.size ≠ sb; omega)]
    exact (Below.heap_alloc (W.alloc _) _ W.heap.size (by simp)).trans (heap_alloc_new W _)
  have b4 : B4 V2 (W.heap.size + 1) v0 v1 v2 vo m vc := by
    unfold B4
    rw [← hV2, heap_setCell_other _ ⟨sb, 0, none⟩ _ _ (by show W.heap.size + 1 ≠ sb; omega)]
    have e := heap_alloc_new (W.alloc (.cells #[.string f0, .bool f1, .int .i64 f2, .int .i64 f3, .int .i64 f4, .int .i64 f5, .slice ao n ca] 26)) (.cells #[.bool v0, .int .i64 v1, .string v2, .slice vo m vc] 29)
    rw [show (W.alloc (.cells #[.string f0, .bool f1, .int .i64 f2, .int .i64 f3, .int .i64 f4, .int .i64 f5, .slice ao n ca] 26)).heap.size = W.heap.size + 1 by simp] at e
    exact e
  obtain ⟨p0, p1, p2, p3, p4, p5, p6⟩ := b7.cells
  obtain ⟨q0, q1, q2, q3⟩ := b4.cells
  have s0 := HS.out.cell
  clear b7 b4 hs hne hv2 hz
  dsimp only
  obtain ⟨x, hx⟩ : ∃ x, x = (if (16 + v2.size : Int) ≤ l then r (l - (16 + v2.size)) else none) := ⟨_, rfl⟩
  rw [← hx]
  by_cases hle : (16 + v2.size : Int) ≤ l
  · have hge : 0 ≤ l - (16 + (v2.size : Int)) := by omega
    have HB : Hid (l - (16 + (v2.size : Int)) ≤ 4194304) := by show _ ≤ _; omega
    have HX : Hid (x = r (l - (16 + v2.size))) := by rw [if_pos hle] at hx; exact hx
    clear h1 hle hx
    go_enter Tryz.func43, Tryz.ntmps43
    go_wp2
    go_region
    all_goals
      go_wp2_with (go_at_call 76; refine Hid.out ?_)
      unfold Hid
      refine Calls.mono (h70.out _ _ (HS.out.drew.base HK.out) hge HB.out) ?_
      rintro e w' ⟨l', rfl, hs', hr⟩
      have HE := hidM (And.intro hs' hr)
      clear hs' hr
      go_wp2_with fail
      go_ret
      exact .of HX.out rfl (HE.out.1.base HS.out.drew.kp) HE.out.2
  · have HX : Hid (x = none) := by rw [if_neg hle] at hx; exact hx
    have hge : ¬ 0 ≤ l - (16 + (v2.size : Int)) := by omega
    clear h1 hle hx
    go_enter Tryz.func43, Tryz.ntmps43
    go_wp2
    go_region
    all_goals
      go_wp2
      go_ret
      exact .no HX.out rfl HS.out.drew
end Go.Proofs.YtfoifmacobldbaaGreatDoor.Kit
namespace Go.Proofs.YtfoifmacobldbaaGreatDoor.Kit
open Go.RowKit Go.Shelf Go.Deep
set_option linter.unusedVariables false
set_option linter.unusedSimpArgs false
attribute [local go_sem] run_store_func
/-! ### Print's text while it grows: whole, or too long already -/
def PrQ (bs T bs' : List UInt8) : Prop := bs'.length ≤ bs.length + T.length ∧ (bs' = bs ++ T ∨ (65536 < bs'.length ∧ 65536 < bs.length + T.length))
theorem PrQ.all (bs T : List UInt8) : PrQ bs T (bs ++ T) := ⟨by simp, .inl rfl⟩
theorem PrQ.then {bs T U b1 b2 : List UInt8} (h : PrQ bs T b1) (g : PrQ b1 U b2) : PrQ bs (T ++ U) b2 := by
  obtain ⟨h1, h2⟩ := h
  obtain ⟨g1, g2⟩ := g
  refine ⟨by simp only [List.length_append]; omega, ?_⟩
  rcases h2 with rfl | ⟨h2, h3⟩
  · rcases g2 with rfl | ⟨g2, g3⟩
    · exact .inl (by simp)
    · exact .inr ⟨g2, by simp only [List.length_append] at g3 ⊢; omega⟩
  · refine .inr ⟨?_, by simp only [List.length_append]; omega⟩
    rcases g2 with rfl | ⟨g2, g3⟩
    · simp only [List.length_append]; omega
    · exact g2
theorem PrQ.app {bs T b1 : List UInt8} (h : PrQ bs T b1) (U : List UInt8) : PrQ bs (T ++ U) (b1 ++ U) := h.then (.all b1 U)
theorem PrQ.long {bs T : List UInt8} (h : 65536 < bs.length) : PrQ bs T bs := ⟨by omega, .inr ⟨h, by omega⟩⟩
/-- what a call that writes a text answers -/
def PrA (w : World × World) (bs T : List UInt8) (e : Ending) (W' : World) : Prop := ∃ vo' vc' n' bs', e = .returned (.slice vo' n' vc') ∧ Byts w W' vo' vc' n' bs' ∧ PrQ bs T bs'
/-- 23's contract, of one field and value; a: as it was -/
def PrC (a : World) (f : FT) (ao : Option Addr) (ca : Nat) (v : VT) (vo : Option Addr) (vc : Nat) (T : List UInt8) : Prop :=
  ∀ (u W : World) (bo : Option Addr) (bc n : Nat) (bs : List UInt8), Byts (a, u) W bo bc n bs → n + T.length < 100000000000 → Calls Tryz.prog 23 #[.slice bo n bc, .agg #[.string f.name, .bool f.nul, .int .i64 f.kind, .int .i64 f.width, .int .i64 f.id, .int .i64 f.index, .slice ao f.kids.length ca], .agg #[.bool v.nul, .int .i64 v.num, .string v.text, .slice vo v.list.length vc]] W (PrA (a, u) bs T)
end Go.Proofs.YtfoifmacobldbaaGreatDoor.Kit
namespace Go.Proofs.YtfoifmacobldbaaGreatDoor.Kit
open Go.RowKit Go.Shelf Go.Deep
set_option linter.unusedVariables false
set_option linter.unusedSimpArgs false
/-! ### Parse: digits -/
/-- it couldn't be read -/
def Bad (W : World) (p : Nat) (s : ByteArray) : Prop := ∃ a er, er ≠ 0 ∧ Rd W p s a er
theorem Rd.isBad {W : World} {p : Nat} {s : ByteArray} {a : Nat} (h : Rd W p s a 8) : Bad W p s := ⟨a, 8, by decide, h⟩
theorem hexV_key : ∀ x : Fin 256, Lib.indexByte [48, 49, 50, 51, 52, 53, 54, 55, 56, 57, 97, 98, 99, 100, 101, 102] (UInt8.ofNat x.val) = (match QC.hexV (UInt8.ofNat x.val) with | some d => (d : Int) | none => -1) := by decide +kernel
theorem index_hexV (c : UInt8) : Lib.indexByte [48, 49, 50, 51, 52, 53, 54, 55, 56, 57, 97, 98, 99, 100, 101, 102] c = (match QC.hexV c with | some d => (d : Int) | none => -1) := by
  have h := hexV_key ⟨c.toNat, c.toNat_lt⟩
  simpa using h
theorem toU8 (c : UInt8) : ((c.toNat : Int)).toNat.toUInt8 = c := by
  simp
theorem idx124 (c : UInt8) (w : World) : Calls Tryz.prog 124 #[.string ⟨#[48, 49, 50, 51, 52, 53, 54, 55, 56, 57, 97, 98, 99, 100, 101, 102]⟩, .int .u8 (c.toNat : Int)] w fun e w' => e = .returned (.int .i64 (match QC.hexV c with | some d => (d : Int) | none => -1)) ∧ w' = w := by
  have h := Tryz.strings_IndexByte ⟨#[48, 49, 50, 51, 52, 53, 54, 55, 56, 57, 97, 98, 99, 100, 101, 102]⟩ (c.toNat : Int) w
  rw [toU8] at h
  have e : (⟨#[48, 49, 50, 51, 52, 53, 54, 55, 56, 57, 97, 98, 99, 100, 101, 102]⟩ : ByteArray).data.toList = [48, 49, 50, 51, 52, 53, 54, 55, 56, 57, 97, 98, 99, 100, 101, 102] := rfl
  rw [e, index_hexV] at h
  exact h
def DgA (W : World) (p : Nat) (s : ByteArray) (a : Nat) (er : Int) (o : Option Nat) (e : Ending) (W' : World) : Prop :=
  Keeps W W' (fun z => z = p) ∧ match o with
    | some d => e = .returned (.tuple #[.int .u8 (d : Int), .bool true]) ∧ Rd W' p s (a + 1) er
    | none => e = .returned (.tuple #[.int .u8 0, .bool false]) ∧ Bad W' p s
theorem drop_at (s : ByteArray) (a : Nat) (h : a < s.size) : s.data.toList.drop a = (s[a]'h) :: s.data.toList.drop (a + 1) := by
  rw [List.drop_eq_getElem_cons (by simpa using h)]
  congr 1
theorem digit101 (p : Nat) (s : ByteArray) (W : World) (a : Nat) (er : Int) (hR : Rd W p s a er) : Calls Tryz.prog 101 #[.pointer (some ⟨p, 0, none⟩)] W (DgA W p s a er ((s.data.toList.drop a).head?.bind QC.hexV)) := by
  have HR := hidM hR
  have d0 := hR.cells.1
  have d1 := hR.cells.2.1
  have z1 := hR.frz.1
  have hal : a ≤ 65536 := Nat.le_trans hR.pos hR.len
  have hsl := hR.len
  have hap := hR.pos
  clear hR
  by_cases hlt : a < s.size
  · rw [drop_at s a hlt]
    simp only [List.head?_cons, Option.bind_some]
    have hne : ¬ (a : Int) = (s.size : Int) := by omega
    have HI := hidM (idx124 (s[a]'hlt))
    have hix := index_str s a hlt
    have hv16 : ∀ d, QC.hexV (s[a]'hlt) = some d → d < 16 := fun d hd => (QF.hexV_some hd).1
    have HV := hidM hv16
    clear hv16
    generalize QC.hexV (s[a]'hlt) = o at HI HV ⊢
    have HS0 : Hid (W.drew.cell? ⟨p, 0, none⟩ = some (.string s) ∧ W.drew.cell? ⟨p, 1, none⟩ = some (.int .i64 (a : Int))) := ⟨d0, d1⟩
    have HS1 : Hid (W.drew.drew.cell? ⟨p, 0, none⟩ = some (.string s) ∧ W.drew.drew.cell? ⟨p, 1, none⟩ = some (.int .i64 (a : Int))) := ⟨d0, d1⟩
    go_enter Tryz.func101, Tryz.ntmps101
    go_wp2_with fail
    go_region_held3 (fun w' => w'.cell? ⟨p, 0, none⟩ = some (.string s) ∧ w'.cell? ⟨p, 1, none⟩ = some (.int .i64 (a : Int))) (with_reducible exact HS0.out) (fail)
    have HRD : Hid (Rd W.drew.drew p s a er) := (HR.out.gr gr_drew).gr gr_drew
    have HKD : Hid (Keeps W W.drew.drew (fun z => z = p)) := ((Keeps.refl W (fun z => z = p)).drew).drew
    go_wp2_with fail
    cases o with
    | none =>
      go_region_held3 (fun w' => w'.cell? ⟨p, 0, none⟩ = some (.string s) ∧ w'.cell? ⟨p, 1, none⟩ = some (.int .i64 (a : Int))) (with_reducible exact HS1.out) ((go_at_call 124; refine Calls.mono (HI.out _) ?_; rintro e w' ⟨rfl, hw⟩; replace hw := hw.symm; subst hw))
      go_wp2_with (go_at_call 30; refine (wrong30 p s _ a er HRD.out).mono ?_; rintro e u ⟨rfl, hk, hr⟩; have HK := hidM hk; have HR2 := hidM hr; clear hk hr)
      go_ret2
      exact ⟨HKD.out.trans HK.out (fun _ _ h => h), rfl, HR2.out.isBad⟩
    | some d =>
      have hd16 := HV.out d rfl
      go_region_held3 (fun w' => w'.cell? ⟨p, 0, none⟩ = some (.string s) ∧ w'.cell? ⟨p, 1, none⟩ = some (.int .i64 (a : Int))) (with_reducible exact HS1.out) ((go_at_call 124; refine Calls.mono (HI.out _) ?_; rintro e w' ⟨rfl, hw⟩; replace hw := hw.symm; subst hw))
      obtain ⟨V, hV⟩ : ∃ V, W.drew.drew = V := ⟨_, rfl⟩
      have v1 : V.cell? ⟨p, 1, none⟩ = some (.int .i64 (a : Int)) := HRD.out.cells.2.1 |> fun h => by rw [← hV]; exact h
      have y1 : V.frozen? ⟨p, 1, none⟩ = false := by rw [← hV]; exact HRD.out.frz.1
      rw [hV] at HRD HKD ⊢
      clear hV HS0 HS1
      have hw : IntKind.i64.wrap ((a : Int) + 1) = ((a + 1 : Nat) : Int) := by rw [IntKind.wrap_i64]; omega
      go_wp2_with fail
      go_ret2
      refine ⟨HKD.out.trans ((Keeps.refl V (fun z => z = p)).setCell (p := ⟨p, 1, none⟩) (fun _ => rfl) _) (fun _ _ h => h), ?_⟩
      have h := HRD.out.set (show a + 1 ≤ s.size by omega)
      rw [Int.natCast_add] at h
      exact ⟨rfl, h⟩
  · have hd : s.data.toList.drop a = [] := List.drop_of_length_le (by simp; omega)
    rw [hd]
    have he : (a : Int) = (s.size : Int) := by omega
    have HS0 : Hid (W.drew.cell? ⟨p, 0, none⟩ = some (.string s) ∧ W.drew.cell? ⟨p, 1, none⟩ = some (.int .i64 (a : Int))) := ⟨d0, d1⟩
    have HRD : Hid (Rd W.drew p s a er) := HR.out.gr gr_drew
    have HKD : Hid (Keeps W W.drew (fun z => z = p)) := (Keeps.refl W (fun z => z = p)).drew
    go_enter Tryz.func101, Tryz.ntmps101
    go_wp2_with fail
    go_region_held3 (fun w' => w'.cell? ⟨p, 0, none⟩ = some (.string s) ∧ w'.cell? ⟨p, 1, none⟩ = some (.int .i64 (a : Int))) (with_reducible exact HS0.out) (fail)
    go_wp2_with (go_at_call 30; refine (wrong30 p s _ a er HRD.out).mono ?_; rintro e u ⟨rfl, hk, hr⟩; have HK := hidM hk; have HR2 := hidM hr; clear hk hr)
    go_ret2
    exact ⟨HKD.out.trans HK.out (fun _ _ h => h), rfl, HR2.out.isBad⟩
end Go.Proofs.YtfoifmacobldbaaGreatDoor.Kit
