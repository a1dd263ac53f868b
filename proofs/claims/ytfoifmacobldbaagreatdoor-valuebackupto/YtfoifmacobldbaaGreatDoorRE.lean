import Derived.Test.YtfoifmacobldbaaGreatDoorRD
set_option maxRecDepth 100000
set_option maxHeartbeats 4000000
namespace Go.Proofs.YtfoifmacobldbaaGreatDoor.Kit
open Go.RowKit Go.Shelf Go.Deep
set_option linter.unusedVariables false
set_option linter.unusedSimpArgs false
attribute [local go_sem] run_store_func
/-! ### appendValue 23, kind by kind -/
theorem gr3 (W : World) (x y z : Obj) : Gr W (((W.alloc x).alloc y).alloc z) := ((gr_alloc W _).trans (gr_alloc _ _) (fun _ _ h => h)).trans (gr_alloc _ _) (fun _ _ h => h)
theorem val23_long (f0 : ByteArray) (f1 : Bool) (f2 f3 f4 f5 : Int) (ao : Option Addr) (n0 ca : Nat) (v0 : Bool) (v1 : Int) (v2 : ByteArray) (vo : Option Addr) (m0 vc : Nat) (a u W : World) (bo : Option Addr) (bc n : Nat) (bs : List UInt8) (hB : Byts (a, u) W bo bc n bs) (hl : 65536 < n) (T : List UInt8) :
    Calls Tryz.prog 23 #[.slice bo n bc, .agg #[.string f0, .bool f1, .int .i64 f2, .int .i64 f3, .int .i64 f4, .int .i64 f5, .slice ao n0 ca], .agg #[.bool v0, .int .i64 v1, .string v2, .slice vo m0 vc]] W (PrA (a, u) bs T) := by
  have hlI : (65536 : Int) < (n : Int) := by omega
  have HB := hidM hB
  have HL := hidM hB.len
  clear hB hl
  go_enter Tryz.func23, Tryz.ntmps23
  go_wp2
  go_ret
  exact ⟨_, _, _, _, rfl, HB.out.gr' (gr3 _ _ _ _), PrQ.long (by have := HL.out; omega)⟩
theorem val23_null (f0 : ByteArray) (f1 : Bool) (f2 f3 f4 f5 : Int) (ao : Option Addr) (n0 ca : Nat) (v1 : Int) (v2 : ByteArray) (vo : Option Addr) (m0 vc : Nat) (a u W : World) (bo : Option Addr) (bc n : Nat) (bs : List UInt8) (hB : Byts (a, u) W bo bc n bs) (hl : n ≤ 65536) :
    Calls Tryz.prog 23 #[.slice bo n bc, .agg #[.string f0, .bool f1, .int .i64 f2, .int .i64 f3, .int .i64 f4, .int .i64 f5, .slice ao n0 ca], .agg #[.bool true, .int .i64 v1, .string v2, .slice vo m0 vc]] W (PrA (a, u) bs [110, 117, 108, 108]) := by
  have hlI : ¬ (65536 : Int) < (n : Int) := by omega
  have HB := hidM (hB.gr' (gr3 W (.cells #[.string f0, .bool f1, .int .i64 f2, .int .i64 f3, .int .i64 f4, .int .i64 f5, .slice ao n0 ca] 26) (.cells #[.bool true, .int .i64 v1, .string v2, .slice vo m0 vc] 29) (.cells #[.int .i64 f2, .int .i64 f3, .int .i64 f4, .int .i64 f5, .slice ao n0 ca] 24)))
  clear hB
  go_enter Tryz.func23, Tryz.ntmps23
  go_wp2_with (at_builtin; refine Hid.out ?_)
  unfold Hid
  refine wpList_append_any _ rfl (.tmp 18) (.const (.string ⟨#[110, 117, 108, 108]⟩)) 52 9 rfl 5 (.int .u8 0) 1 Tryz.underlying52 info5 rfl _ n (bv bs) rfl HB.out.own _ 4 (bv [110, 117, 108, 108]) rfl (src_str _ ⟨#[110, 117, 108, 108]⟩) (by omega) (by omega) ?_
  intro v' w1 hown hgrow hblk
  obtain ⟨vo1, vc1, rfl⟩ := own_formN hown
  have HN := hidM (HB.out.app (us := [110, 117, 108, 108]) rfl hown hgrow hblk)
  clear hown hgrow hblk HB
  go_wp2_with fail
  go_ret
  exact ⟨_, _, _, _, rfl, HN.out, PrQ.all _ _⟩
theorem val23_num (f0 : ByteArray) (f1 : Bool) (f2 f3 f4 f5 : Int) (ao : Option Addr) (n0 ca : Nat) (v1 : Int) (v2 : ByteArray) (vo : Option Addr) (m0 vc : Nat) (a u W : World) (bo : Option Addr) (bc n : Nat) (bs : List UInt8) (hB : Byts (a, u) W bo bc n bs) (hl : n ≤ 65536) (hk : 2 ≤ f2 ∧ f2 ≤ 11) (hv : QF.is64 v1) (hT : Tbs a) :
    Calls Tryz.prog 23 #[.slice bo n bc, .agg #[.string f0, .bool f1, .int .i64 f2, .int .i64 f3, .int .i64 f4, .int .i64 f5, .slice ao n0 ca], .agg #[.bool false, .int .i64 v1, .string v2, .slice vo m0 vc]] W (PrA (a, u) bs (QF.numT f2 v1)) := by
  have hlI : ¬ (65536 : Int) < (n : Int) := by omega
  have HB := hidM (hB.gr' (gr3 W (.cells #[.string f0, .bool f1, .int .i64 f2, .int .i64 f3, .int .i64 f4, .int .i64 f5, .slice ao n0 ca] 26) (.cells #[.bool false, .int .i64 v1, .string v2, .slice vo m0 vc] 29) (.cells #[.int .i64 f2, .int .i64 f3, .int .i64 f4, .int .i64 f5, .slice ao n0 ca] 24)))
  have HI := hidM (isNum44 f2)
  have hd : (decide (2 ≤ f2) && decide (f2 ≤ 11)) = true := by simp; exact hk
  rw [hd] at HI
  have HNT := hidM (number45 f2 v1 hk hv _ (hT.gr HB.out.gr))
  have HNL := hidM (num_len f2 v1 hv)
  clear hB hd hk hv hT
  go_enter Tryz.func23, Tryz.ntmps23
  go_wp2_with (first | (go_at_call 44; refine (HI.out _).mono ?_; rintro e w' ⟨rfl, rfl⟩) | (go_at_call 45; refine HNT.out.mono ?_; rintro e w' ⟨rfl, hg⟩; replace hg := hidM hg) | (at_builtin; refine Hid.out ?_))
  unfold Hid
  have hnl := HNL.out
  refine wpList_append_any _ rfl (.tmp 24) (.tmp 29) 52 9 rfl 5 (.int .u8 0) 1 Tryz.underlying52 info5 rfl _ n (bv bs) rfl (HB.out.gr' hg.out).own _ (QF.numT f2 v1).length (bv (QF.numT f2 v1)) rfl (src_str w' ⟨(QF.numT f2 v1).toArray⟩) (by omega) (by omega) ?_
  intro v' w1 hown hgrow hblk
  obtain ⟨vo1, vc1, rfl⟩ := own_formN hown
  have HN := hidM ((HB.out.gr' hg.out).app (us := QF.numT f2 v1) rfl hown hgrow hblk)
  clear hown hgrow hblk HB
  generalize n + (QF.numT f2 v1).length = n2 at HN ⊢
  go_wp2_with fail
  go_ret
  exact ⟨_, _, _, _, rfl, HN.out, PrQ.all _ _⟩
theorem noNum (f2 : Int) (h : ¬ (2 ≤ f2 ∧ f2 ≤ 11)) (w : World) : Calls Tryz.prog 44 #[.int .i64 f2] w fun e w' => e = .returned (.bool false) ∧ w = w' := by
  have h1 := isNum44 f2 w
  have : (decide (2 ≤ f2) && decide (f2 ≤ 11)) = false := by simp; omega
  rwa [this] at h1
theorem val23_text (f0 : ByteArray) (f1 : Bool) (f3 f4 f5 : Int) (ao : Option Addr) (n0 ca : Nat) (v1 : Int) (v2 : ByteArray) (vo : Option Addr) (m0 vc : Nat) (a u W : World) (bo : Option Addr) (bc n : Nat) (bs : List UInt8) (hB : Byts (a, u) W bo bc n bs) (hl : n ≤ 65536) (hv : v2.size ≤ 100000000000) :
    Calls Tryz.prog 23 #[.slice bo n bc, .agg #[.string f0, .bool f1, .int .i64 12, .int .i64 f3, .int .i64 f4, .int .i64 f5, .slice ao n0 ca], .agg #[.bool false, .int .i64 v1, .string v2, .slice vo m0 vc]] W (PrA (a, u) bs (34 :: (v2.data.toList.flatMap QE.esc ++ [34]))) := by
  have hlI : ¬ (65536 : Int) < (n : Int) := by omega
  have HB := hidM (hB.gr' (gr3 W (.cells #[.string f0, .bool f1, .int .i64 12, .int .i64 f3, .int .i64 f4, .int .i64 f5, .slice ao n0 ca] 26) (.cells #[.bool false, .int .i64 v1, .string v2, .slice vo m0 vc] 29) (.cells #[.int .i64 12, .int .i64 f3, .int .i64 f4, .int .i64 f5, .slice ao n0 ca] 24)))
  have HI := hidM (noNum 12 (by omega))
  have HC := hidM (letters46 v2 hv (a, u) _ bo bc n bs HB (by omega))
  clear hB hv HB
  go_enter Tryz.func23, Tryz.ntmps23
  go_wp2_with (first | (go_at_call 44; refine (HI.out _).mono ?_; rintro e w' ⟨rfl, rfl⟩) | (go_at_call 46; refine HC.out.mono ?_; rintro e w' ⟨vo1, vc1, n1, rfl, hb1⟩; have HN := hidM hb1; clear hb1))
  go_ret
  refine ⟨_, _, _, _, rfl, HN.out, ?_⟩
  rw [qs_all]
  exact PrQ.all _ _
theorem val23_bytes (f0 : ByteArray) (f1 : Bool) (f2 f3 f4 f5 : Int) (ao : Option Addr) (n0 ca : Nat) (v1 : Int) (v2 : ByteArray) (vo : Option Addr) (m0 vc : Nat) (a u W : World) (bo : Option Addr) (bc n : Nat) (bs : List UInt8) (hB : Byts (a, u) W bo bc n bs) (hl : n ≤ 65536) (hv : v2.size ≤ 100000000000) (hk : f2 = 13 ∨ f2 = 14) :
    Calls Tryz.prog 23 #[.slice bo n bc, .agg #[.string f0, .bool f1, .int .i64 f2, .int .i64 f3, .int .i64 f4, .int .i64 f5, .slice ao n0 ca], .agg #[.bool false, .int .i64 v1, .string v2, .slice vo m0 vc]] W (PrA (a, u) bs ([120, 34] ++ (v2.data.toList.flatMap QF.hex2 ++ [34]))) := by
  have hlI : ¬ (65536 : Int) < (n : Int) := by omega
  have HB := hidM (hB.gr' (gr3 W (.cells #[.string f0, .bool f1, .int .i64 f2, .int .i64 f3, .int .i64 f4, .int .i64 f5, .slice ao n0 ca] 26) (.cells #[.bool false, .int .i64 v1, .string v2, .slice vo m0 vc] 29) (.cells #[.int .i64 f2, .int .i64 f3, .int .i64 f4, .int .i64 f5, .slice ao n0 ca] 24)))
  have HI := hidM (noNum f2 (by omega))
  have HC := hidM (digits47 v2 hv (a, u) _ bo bc n bs HB (by omega))
  clear hB hv HB
  rcases hk with rfl | rfl
  all_goals
    go_enter Tryz.func23, Tryz.ntmps23
    go_wp2_with (first | (go_at_call 44; refine (HI.out _).mono ?_; rintro e w' ⟨rfl, rfl⟩) | (go_at_call 47; refine HC.out.mono ?_; rintro e w' ⟨vo1, vc1, n1, rfl, hb1⟩; have HN := hidM hb1; clear hb1))
    go_ret
    refine ⟨_, _, _, _, rfl, HN.out, ?_⟩
    rw [ds_all, List.append_assoc]
    exact PrQ.all _ _
theorem val23_parts (f0 : ByteArray) (f1 : Bool) (f3 f4 f5 : Int) (ao : Option Addr) (n0 ca : Nat) (v1 : Int) (v2 : ByteArray) (vo : Option Addr) (m0 vc : Nat) (a u W : World) (bo : Option Addr) (bc n : Nat) (bs : List UInt8) (hB : Byts (a, u) W bo bc n bs) (hl : n ≤ 65536) (T : List UInt8) (hC : ∀ W, Byts (a, u) W bo bc n bs → Calls Tryz.prog 48 #[.slice bo n bc, .slice ao n0 ca, .slice vo m0 vc] W (PrA (a, u) bs T)) :
    Calls Tryz.prog 23 #[.slice bo n bc, .agg #[.string f0, .bool f1, .int .i64 17, .int .i64 f3, .int .i64 f4, .int .i64 f5, .slice ao n0 ca], .agg #[.bool false, .int .i64 v1, .string v2, .slice vo m0 vc]] W (PrA (a, u) bs T) := by
  have hlI : ¬ (65536 : Int) < (n : Int) := by omega
  have HI := hidM (noNum 17 (by omega))
  have HC := hidM (hC _ (hB.gr' (gr3 W (.cells #[.string f0, .bool f1, .int .i64 17, .int .i64 f3, .int .i64 f4, .int .i64 f5, .slice ao n0 ca] 26) (.cells #[.bool false, .int .i64 v1, .string v2, .slice vo m0 vc] 29) (.cells #[.int .i64 17, .int .i64 f3, .int .i64 f4, .int .i64 f5, .slice ao n0 ca] 24))))
  clear hB hC
  go_enter Tryz.func23, Tryz.ntmps23
  go_wp2_with (first | (go_at_call 44; refine (HI.out _).mono ?_; rintro e w' ⟨rfl, rfl⟩) | (go_at_call 48; refine HC.out.mono ?_; rintro e w' ⟨vo1, vc1, n1, b1, rfl, hb1, hq1⟩; have HN := hidM (And.intro hb1 hq1); clear hb1 hq1))
  go_ret
  exact ⟨_, _, _, _, rfl, HN.out.1, HN.out.2⟩
end Go.Proofs.YtfoifmacobldbaaGreatDoor.Kit
