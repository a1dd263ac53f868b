import Derived.Test.YtcfdkadhclickaaDoorVG
namespace Go.Proofs.YtcfdkadhclickaaDoor.Kit
open Go.RowKit Go.Shelf Go.Deep
set_option linter.unusedVariables false
attribute [local go_sem] run_store_func

/-! ### a value's hash: a function of its tree -/
def hB (h c : Int) : Int := IntKind.u64.wrap (bits BinOp.xor IntKind.u64 h (IntKind.u64.wrap c) * 1099511628211)
def hN : Nat → Int → Int → Int
  | 0, x, _ => x
  | k + 1, x, y => hN k (hB x (y % 256)) (y / 256)
set_option maxRecDepth 100000 in
theorem hashByte_any (h c : Int) (w : World) : Calls Tryd.prog 64 #[.int .u64 h, .int .u8 c] w fun e w' => e = .returned (.int .u64 (hB h c)) ∧ w = w' := by
  go_enter Tryd.func64, Tryd.ntmps64
  go_wp2
  go_ret
  exact ⟨rfl, rfl⟩
set_option maxRecDepth 100000 in
theorem hashNumber_any (h n : Int) (w : World) : Calls Tryd.prog 65 #[.int .u64 h, .int .u64 n] w fun e w' => e = .returned (.int .u64 (hN 8 h n)) ∧ w = w' := by
  have h64 : ∀ (h c : Int) (w : World), Calls Tryd.prog 64 #[.int .u64 h, .int .u8 c] w fun e w' => e = .returned (.int .u64 (hB h c)) ∧ w = w' := hashByte_any
  obtain ⟨R, hR⟩ : ∃ R, R = hN 8 h n := ⟨_, rfl⟩
  rw [← hR]
  have HR := hidM hR
  clear hR
  go_enter Tryd.func65, Tryd.ntmps65
  go_wp2
  go_loop [0, 1, 5] (fun a b i => ∃ k : Nat, k ≤ 8 ∧ i = .int .i64 (k : Int) ∧ ∃ x y, a = .int .u64 x ∧ b = .int .u64 y ∧ Hid (R = hN (8 - k) x y)) (fun a b i => 8 - (intOf i).toNat)
  case atStart => exact ⟨0, by omega, rfl, h, n, rfl, rfl, HR.out⟩
  case round =>
    obtain ⟨k, hk, rfl, x, y, rfl, rfl, HI⟩ := hrel
    by_cases hlt : k < 8
    · have HJ : Hid (R = hN (8 - (k + 1)) (hB x (y % 256)) (y / 256)) := by
        have := HI.out
        rw [show 8 - k = (8 - (k + 1)) + 1 by omega, hN] at this
        exact this
      clear HI
      go_wp2_with (go_at_call 64; refine (h64 _ _ _).mono ?_; rintro e w' ⟨rfl, rfl⟩)
      go_round
      case rel => exact ⟨k + 1, by omega, by simp, _, _, rfl, rfl, HJ.out⟩
      case measure => simp [intOf]; omega
    · obtain rfl : k = 8 := by omega
      have HJ : Hid (R = x) := HI.out
      clear HI
      go_wp2_with fail
      go_ret
      exact ⟨by rw [HJ.out]; rfl, rfl⟩
def hV : Nat → VT → Int → Int
  | 0, v, h => hN 8 (v.text.data.toList.foldl (fun h c => hB h (c.toNat : Int)) (hN 8 (hN 8 (hB h (if v.nul then 1 else 0)) (IntKind.u64.wrap v.num)) (v.text.size : Int))) (v.list.length : Int)
  | d + 1, v, h => v.list.foldl (fun h x => hV d x h) (hN 8 (v.text.data.toList.foldl (fun h c => hB h (c.toNat : Int)) (hN 8 (hN 8 (hB h (if v.nul then 1 else 0)) (IntKind.u64.wrap v.num)) (v.text.size : Int))) (v.list.length : Int))
set_option maxRecDepth 100000 in
set_option maxHeartbeats 2000000 in
theorem hash_walk (S : Nat → Prop) (d : Nat) (w : World) (hS : ∀ b, S b → b < w.heap.size) (v0 : Bool) (v1 : Int) (v2 : ByteArray) (vo : Option Addr) (vc : Nat) (list : List VT) (h0 : Int) (hz : v2.size ≤ 1000000000000) (hv : VRow S w (d + 1) vo list)
    (h44 : ∀ (v : VT) (ao : Option Addr) (ca : Nat) (h : Int), v ∈ list → VOk v → VRow S w d ao v.list → ∀ W, Gr w W → Calls Tryd.prog 44 #[.int .u64 h, .agg #[.bool v.nul, .int .i64 v.num, .string v.text, .slice ao v.list.length ca]] W fun e w' => e = .returned (.int .u64 (hV d v h)) ∧ Gr W w') :
    ∀ W, Gr w W → Calls Tryd.prog 44 #[.int .u64 h0, .agg #[.bool v0, .int .i64 v1, .string v2, .slice vo list.length vc]] W fun e w' => e = .returned (.int .u64 (hV (d + 1) (.mk v0 v1 v2 list) h0)) ∧ Gr W w' := by
  intro W g
  have h64 : ∀ (h c : Int) (w : World), Calls Tryd.prog 64 #[.int .u64 h, .int .u8 c] w fun e w' => e = .returned (.int .u64 (hB h c)) ∧ w = w' := hashByte_any
  have h65 : ∀ (h c : Int) (w : World), Calls Tryd.prog 65 #[.int .u64 h, .int .u64 c] w fun e w' => e = .returned (.int .u64 (hN 8 h c)) ∧ w = w' := hashNumber_any
  obtain ⟨R, hR⟩ : ∃ R, R = hV (d + 1) (.mk v0 v1 v2 list) h0 := ⟨_, rfl⟩
  rw [← hR]
  have HR := hidM hR
  obtain ⟨L, hL⟩ : ∃ L, L = list.length := ⟨_, rfl⟩
  rw [← hL]
  have hLb : L ≤ 1000000000000 := by rw [hL]; exact hv.len
  have HLE := hidM hL
  have HG := hidM g
  have HS := hidM hS
  have HV := hidM hv
  have H44 := hidM h44
  clear hR hL g hS hv h44
  obtain ⟨W1, hW1⟩ : ∃ W1, W.alloc (.cells #[.bool v0, .int .i64 v1, .string v2, .slice vo L vc] 29) = W1 := ⟨_, rfl⟩
  have gW : Gr W W1 := by rw [← hW1]; exact gr_alloc W _
  have b4 : B4 W1 W.heap.size v0 v1 v2 vo L vc := by unfold B4; rw [← hW1]; exact heap_alloc_new W _
  obtain ⟨p0, p1, p2, p3⟩ := b4.cells
  have HB4 := hidM b4
  have HW := hidM gW
  obtain ⟨H4, hH4⟩ : ∃ H4, H4 = v2.data.toList.foldl (fun h c => hB h (c.toNat : Int)) (hN 8 (hN 8 (hB h0 (if v0 then 1 else 0)) (IntKind.u64.wrap v1)) (v2.size : Int)) := ⟨_, rfl⟩
  have HR2 : Hid (R = list.foldl (fun h x => hV d x h) (hN 8 H4 (L : Int))) := by
    have := HR.out
    rw [hV] at this
    rw [hH4]
    show R = _
    rw [HLE.out]
    exact this
  have HH4 := hidM hH4
  clear hH4 HR b4 gW
  cases v0
  all_goals
    go_enter Tryd.func44, Tryd.ntmps44
    go_wp2_with (first | (go_at_call 64; refine (h64 _ _ _).mono ?_; rintro e w' ⟨rfl, rfl⟩) | (go_at_call 65; refine (h65 _ _ _).mono ?_; rintro e w' ⟨rfl, rfl⟩))
    clear hW1
    go_loop [0, 28] (fun a i => ∃ k : Nat, k ≤ v2.size ∧ i = .int .i64 (k : Int) ∧ ∃ x, a = .int .u64 x ∧ Hid (H4 = (v2.data.toList.drop k).foldl (fun h c => hB h (c.toNat : Int)) x)) (fun a i => v2.size - (intOf i).toNat)
    case atStart => exact ⟨0, by omega, rfl, _, rfl, HH4.out⟩
    case round =>
      obtain ⟨k, hk, rfl, x, rfl, HI⟩ := hrel
      by_cases hlt : k < v2.size
      · have hltI : (k : Int) < (v2.size : Int) := by omega
        have HJ : Hid (H4 = (v2.data.toList.drop (k + 1)).foldl (fun h c => hB h (c.toNat : Int)) (hB x ((v2[k]'hlt).toNat : Int))) := by
          have h := HI.out
          rw [List.drop_eq_getElem_cons (show k < v2.data.toList.length from hlt), List.foldl_cons] at h
          exact h
        clear HI
        go_wp2_with (go_at_call 64; refine (h64 _ _ _).mono ?_; rintro e w' ⟨rfl, rfl⟩)
        go_round
        case rel => exact ⟨k + 1, by omega, by simp, _, rfl, HJ.out⟩
        case measure => simp [intOf]; omega
      · obtain rfl : k = v2.size := by omega
        have HJ : Hid (H4 = x) := by
          have h := HI.out
          rw [List.drop_of_length_le (show v2.data.toList.length ≤ v2.size from Nat.le_of_eq rfl)] at h
          exact h
        have HR3 : Hid (R = list.foldl (fun h x => hV d x h) (hN 8 x (L : Int))) := by show R = _; rw [← HJ.out]; exact HR2.out
        clear HI HJ
        go_wp2_with (go_at_call 65; refine (h65 _ _ _).mono ?_; rintro e w' ⟨rfl, rfl⟩)
        go_loopw [0, 47] (fun a i wr => ∃ k : Nat, k ≤ L ∧ i = .int .i64 (k : Int) ∧ ∃ x, a = .int .u64 x ∧ Hid (Gr W wr ∧ R = (list.drop k).foldl (fun h x => hV d x h) x)) (fun a i _ => L - (intOf i).toNat)
        case atStart => exact ⟨0, by omega, rfl, _, rfl, HW.out, HR3.out⟩
        case round =>
          obtain ⟨k, hk, rfl, x, rfl, HI⟩ := hrel
          by_cases hlt : k < L
          · have hkl : k < list.length := by have := HLE.out; omega
            obtain ⟨b, o, rfl, hb, hcs⟩ := HV.out.2 (fun e => by subst e; simp at hkl)
            obtain ⟨ao', ca', hc, hle, hok, hrow⟩ := hcs k hkl
            have hcw := hc.kept (((HG.out.trans HI.out.1 (fun _ _ h => h)) : Gr w wr).block b (HS.out b hb) id)
            have hcall := H44.out list[k] ao' ca' x (List.getElem_mem hkl) hok hrow
            have hI2 := HI.out.2
            rw [List.drop_eq_getElem_cons hkl, List.foldl_cons] at hI2
            obtain ⟨v, hve⟩ : ∃ v, v = list[k]'hkl := ⟨_, rfl⟩
            rw [← hve] at hcall hI2 hcw
            obtain ⟨c0, c1, c2, c3⟩ := hcw
            have HC := hidM hcall
            have HI2 := hidM hI2
            have HGr := hidM HI.out.1
            have hltI : (k : Int) < (L : Int) := by omega
            clear hcs hc hle hok hrow hcall hI2 hve HI
            go_wp2_with (go_at_call 44; refine Hid.out ?_)
            unfold Hid
            refine Calls.mono (HC.out _ (HG.out.trans (HGr.out.alloc _) (fun _ _ h => h))) ?_
            rintro e w2 ⟨rfl, hg2⟩
            have HE := hidM ((HGr.out.alloc _).trans hg2 (fun _ _ h => h))
            clear hg2
            go_wp2_with fail
            go_roundw
            case rel => exact ⟨k + 1, by omega, by simp, _, rfl, HE.out, HI2.out⟩
            case measure => simp [intOf]; omega
          · have hkL : k = L := by omega
            subst hkL
            have HX : Hid (R = x) := by
              have h := HI.out.2
              rw [List.drop_of_length_le (by have := HLE.out; omega)] at h
              exact h
            have HGr := hidM HI.out.1
            clear HI
            go_wp2_with fail
            go_ret
            exact ⟨by rw [HX.out]; rfl, HGr.out⟩
/-- all depths -/
theorem hash_any (S : Nat → Prop) (w : World) (hS : ∀ b, S b → b < w.heap.size) : ∀ (d : Nat) (v : VT) (ao : Option Addr) (ca : Nat) (h : Int), VOk v → VRow S w d ao v.list → ∀ W, Gr w W → Calls Tryd.prog 44 #[.int .u64 h, .agg #[.bool v.nul, .int .i64 v.num, .string v.text, .slice ao v.list.length ca]] W fun e w' => e = .returned (.int .u64 (hV d v h)) ∧ Gr W w'
  | 0, v, ao, ca, h, hok, hv, W, g => by
    have hl : v.list = [] := hv
    have := hash_walk S 0 w hS v.nul v.num v.text ao ca v.list h hok.2 (hv.more (by omega)) (fun u uo uc h1 hu => by rw [hl] at hu; cases hu) W g
    rw [show hV (0 + 1) (.mk v.nul v.num v.text v.list) h = hV 0 v h by
      rw [hV, hV]
      show List.foldl _ _ v.list = _
      rw [hl]
      rfl] at this
    exact this
  | d + 1, v, ao, ca, h, hok, hv, W, g => hash_walk S d w hS v.nul v.num v.text ao ca v.list h hok.2 hv (fun u uo uc h1 _ hu hr => hash_any S w hS d u uo uc h1 hu hr) W g
set_option maxRecDepth 100000 in
theorem hash21 {v0 : Bool} {v1 : Int} {v2 : ByteArray} {vo : Option Addr} {m vc : Nat} {w : World} {R : Int}
    (h44 : ∀ W, Gr w W → Calls Tryd.prog 44 #[.int .u64 14695981039346656037, .agg #[.bool v0, .int .i64 v1, .string v2, .slice vo m vc]] W fun e w' => e = .returned (.int .u64 R) ∧ Gr W w') :
    ∀ W, Gr w W → Calls Tryd.prog 21 #[.agg #[.bool v0, .int .i64 v1, .string v2, .slice vo m vc]] W fun e w' => e = .returned (.int .u64 R) ∧ Gr W w' := by
  intro W g
  have HG := hidM (gr_alloc W (.cells #[.bool v0, .int .i64 v1, .string v2, .slice vo m vc] 29))
  have HC := hidM (h44 _ (g.trans HG.out (fun _ _ h => h)))
  clear h44 g
  go_enter Tryd.func21, Tryd.ntmps21
  go_wp2_with (go_at_call 44; refine Hid.out ?_)
  unfold Hid
  refine Calls.mono HC.out ?_
  rintro e w' ⟨rfl, hg⟩
  have HE := hidM (HG.out.trans hg (fun _ _ h => h))
  clear hg
  go_wp2_with fail
  go_ret
  exact ⟨rfl, HE.out⟩
end Go.Proofs.YtcfdkadhclickaaDoor.Kit
namespace Go.Proofs.YtcfdkadhclickaaDoor.Kit
open Go.RowKit Go.Shelf Go.Deep
set_option linter.unusedVariables false
attribute [local go_sem] run_store_func

/-! ### the document's hash: the same function of the tree -/
set_option maxRecDepth 100000 in
theorem mixed_any (h c : Int) (w : World) : Calls Tryd.prog 66 #[.int .u64 h, .int .u8 c] w fun e w' => e = .returned (.int .u64 (hB h c)) ∧ w = w' := by
  go_enter Tryd.func66, Tryd.ntmps66
  go_wp2
  go_ret
  exact ⟨rfl, rfl⟩
theorem u64_div (y : Int) (h0 : 0 ≤ y) (h1 : y < 18446744073709551616) : IntKind.u64.wrap (y.tdiv 256) = y / 256 := by
  rw [Int.tdiv_eq_ediv_of_nonneg h0]
  simp [IntKind.wrap, IntKind.bits, IntKind.signed]
  omega
theorem u64_in (v : Int) : 0 ≤ IntKind.u64.wrap v ∧ IntKind.u64.wrap v < 18446744073709551616 := by
  simp [IntKind.wrap, IntKind.bits, IntKind.signed]
  omega
set_option maxRecDepth 100000 in
theorem mixed8_any (h n : Int) (hn : 0 ≤ n ∧ n < 18446744073709551616) (w : World) : Calls Tryd.prog 67 #[.int .u64 h, .int .u64 n] w fun e w' => e = .returned (.int .u64 (hN 8 h n)) ∧ w = w' := by
  have h64 : ∀ (h c : Int) (w : World), Calls Tryd.prog 66 #[.int .u64 h, .int .u8 c] w fun e w' => e = .returned (.int .u64 (hB h c)) ∧ w = w' := mixed_any
  obtain ⟨R, hR⟩ : ∃ R, R = hN 8 h n := ⟨_, rfl⟩
  rw [← hR]
  have HR := hidM hR
  have HN := hidM hn
  clear hR hn
  go_enter Tryd.func67, Tryd.ntmps67
  go_wp2
  go_loop [0, 1, 5] (fun a b i => ∃ k : Nat, k ≤ 8 ∧ i = .int .i64 (k : Int) ∧ ∃ x y, a = .int .u64 x ∧ b = .int .u64 y ∧ Hid (R = hN (8 - k) x y ∧ 0 ≤ y ∧ y < 18446744073709551616)) (fun a b i => 8 - (intOf i).toNat)
  case atStart => exact ⟨0, by omega, rfl, h, n, rfl, rfl, HR.out, HN.out.1, HN.out.2⟩
  case round =>
    obtain ⟨k, hk, rfl, x, y, rfl, rfl, HI⟩ := hrel
    by_cases hlt : k < 8
    · have HJ : Hid (R = hN (8 - (k + 1)) (hB x (y % 256)) (IntKind.u64.wrap (y.tdiv 256)) ∧ 0 ≤ IntKind.u64.wrap (y.tdiv 256) ∧ IntKind.u64.wrap (y.tdiv 256) < 18446744073709551616) := by
        have h := HI.out
        rw [show 8 - k = (8 - (k + 1)) + 1 by omega, hN] at h
        rw [u64_div y h.2.1 h.2.2]
        exact ⟨h.1, by omega, by omega⟩
      clear HI
      go_wp2_with (go_at_call 66; refine (h64 _ _ _).mono ?_; rintro e w' ⟨rfl, rfl⟩)
      go_round
      case rel => exact ⟨k + 1, by omega, by simp, _, _, rfl, rfl, HJ.out⟩
      case measure => simp [intOf]; omega
    · obtain rfl : k = 8 := by omega
      have HJ : Hid (R = x) := HI.out.1
      clear HI
      go_wp2_with fail
      go_ret
      exact ⟨by rw [HJ.out]; rfl, rfl⟩
set_option maxRecDepth 100000 in
set_option maxHeartbeats 2000000 in
theorem hashed_walk (S : Nat → Prop) (d : Nat) (w : World) (hS : ∀ b, S b → b < w.heap.size) (v0 : Bool) (v1 : Int) (v2 : ByteArray) (vo : Option Addr) (vc : Nat) (list : List VT) (h0 : Int) (hz : v2.size ≤ 1000000000000) (hv : VRow S w (d + 1) vo list)
    (h44 : ∀ (v : VT) (ao : Option Addr) (ca : Nat) (h : Int), v ∈ list → VOk v → VRow S w d ao v.list → ∀ W, Gr w W → Calls Tryd.prog 45 #[.int .u64 h, .agg #[.bool v.nul, .int .i64 v.num, .string v.text, .slice ao v.list.length ca]] W fun e w' => e = .returned (.int .u64 (hV d v h)) ∧ Gr W w') :
    ∀ W, Gr w W → Calls Tryd.prog 45 #[.int .u64 h0, .agg #[.bool v0, .int .i64 v1, .string v2, .slice vo list.length vc]] W fun e w' => e = .returned (.int .u64 (hV (d + 1) (.mk v0 v1 v2 list) h0)) ∧ Gr W w' := by
  intro W g
  have h64 : ∀ (h c : Int) (w : World), Calls Tryd.prog 66 #[.int .u64 h, .int .u8 c] w fun e w' => e = .returned (.int .u64 (hB h c)) ∧ w = w' := mixed_any
  have h65a : ∀ (h : Int) (w : World), Calls Tryd.prog 67 #[.int .u64 h, .int .u64 (IntKind.u64.wrap v1)] w fun e w' => e = .returned (.int .u64 (hN 8 h (IntKind.u64.wrap v1))) ∧ w = w' := fun h w => mixed8_any h _ (u64_in v1) w
  have h65 : ∀ (h : Int) (c : Nat) (w : World), c ≤ 1000000000000 → Calls Tryd.prog 67 #[.int .u64 h, .int .u64 (c : Int)] w fun e w' => e = .returned (.int .u64 (hN 8 h (c : Int))) ∧ w = w' := fun h c w hc => mixed8_any h _ (by omega) w
  obtain ⟨R, hR⟩ : ∃ R, R = hV (d + 1) (.mk v0 v1 v2 list) h0 := ⟨_, rfl⟩
  rw [← hR]
  have HR := hidM hR
  obtain ⟨L, hL⟩ : ∃ L, L = list.length := ⟨_, rfl⟩
  rw [← hL]
  have hLb : L ≤ 1000000000000 := by rw [hL]; exact hv.len
  have HLE := hidM hL
  have HG := hidM g
  have HS := hidM hS
  have HV := hidM hv
  have H44 := hidM h44
  clear hR hL g hS hv h44
  obtain ⟨W1, hW1⟩ : ∃ W1, W.alloc (.cells #[.bool v0, .int .i64 v1, .string v2, .slice vo L vc] 29) = W1 := ⟨_, rfl⟩
  have gW : Gr W W1 := by rw [← hW1]; exact gr_alloc W _
  have b4 : B4 W1 W.heap.size v0 v1 v2 vo L vc := by unfold B4; rw [← hW1]; exact heap_alloc_new W _
  obtain ⟨p0, p1, p2, p3⟩ := b4.cells
  have HB4 := hidM b4
  have HW := hidM gW
  obtain ⟨H4, hH4⟩ : ∃ H4, H4 = v2.data.toList.foldl (fun h c => hB h (c.toNat : Int)) (hN 8 (hN 8 (hB h0 (if v0 then 1 else 0)) (IntKind.u64.wrap v1)) (v2.size : Int)) := ⟨_, rfl⟩
  have HR2 : Hid (R = list.foldl (fun h x => hV d x h) (hN 8 H4 (L : Int))) := by
    have := HR.out
    rw [hV] at this
    rw [hH4]
    show R = _
    rw [HLE.out]
    exact this
  have HH4 := hidM hH4
  clear hH4 HR b4 gW
  cases v0
  all_goals
    go_enter Tryd.func45, Tryd.ntmps45
    go_wp2_with (first | (go_at_call 66; refine (h64 _ _ _).mono ?_; rintro e w' ⟨rfl, rfl⟩) | (go_at_call 67; with_reducible refine (h65a _ _).mono ?_; rintro e w' ⟨rfl, rfl⟩) | (go_at_call 67; with_reducible refine (h65 _ _ _ hz).mono ?_; rintro e w' ⟨rfl, rfl⟩))
    clear hW1
    go_loop [0, 6] (fun a i => ∃ k : Nat, k ≤ v2.size ∧ i = .int .i64 (k : Int) ∧ ∃ x, a = .int .u64 x ∧ Hid (H4 = (v2.data.toList.drop k).foldl (fun h c => hB h (c.toNat : Int)) x)) (fun a i => v2.size - (intOf i).toNat)
    case atStart => exact ⟨0, by omega, rfl, _, rfl, HH4.out⟩
    case round =>
      obtain ⟨k, hk, rfl, x, rfl, HI⟩ := hrel
      by_cases hlt : k < v2.size
      · have hltI : (k : Int) < (v2.size : Int) := by omega
        have HJ : Hid (H4 = (v2.data.toList.drop (k + 1)).foldl (fun h c => hB h (c.toNat : Int)) (hB x ((v2[k]'hlt).toNat : Int))) := by
          have h := HI.out
          rw [List.drop_eq_getElem_cons (show k < v2.data.toList.length from hlt), List.foldl_cons] at h
          exact h
        clear HI
        go_wp2_with (go_at_call 66; refine (h64 _ _ _).mono ?_; rintro e w' ⟨rfl, rfl⟩)
        go_round
        case rel => exact ⟨k + 1, by omega, by simp, _, rfl, HJ.out⟩
        case measure => simp [intOf]; omega
      · obtain rfl : k = v2.size := by omega
        have HJ : Hid (H4 = x) := by
          have h := HI.out
          rw [List.drop_of_length_le (show v2.data.toList.length ≤ v2.size from Nat.le_of_eq rfl)] at h
          exact h
        have HR3 : Hid (R = list.foldl (fun h x => hV d x h) (hN 8 x (L : Int))) := by show R = _; rw [← HJ.out]; exact HR2.out
        clear HI HJ
        go_wp2_with (go_at_call 67; refine (h65 _ _ _ hLb).mono ?_; rintro e w' ⟨rfl, rfl⟩)
        go_loopw [0, 7] (fun a i wr => ∃ k : Nat, k ≤ L ∧ i = .int .i64 (k : Int) ∧ ∃ x, a = .int .u64 x ∧ Hid (Gr W1 wr ∧ R = (list.drop k).foldl (fun h x => hV d x h) x)) (fun a i _ => L - (intOf i).toNat)
        case atStart => exact ⟨0, by omega, rfl, _, rfl, Keeps.refl _ _, HR3.out⟩
        case round =>
          obtain ⟨k, hk, rfl, x, rfl, HI⟩ := hrel
          clear p0 p1 p2 p3
          obtain ⟨p0, p1, p2, p3⟩ := B4.cells ((HI.out.1.block _ (lt_of_heap HB4.out) id).trans HB4.out)
          by_cases hlt : k < L
          · have hkl : k < list.length := by have := HLE.out; omega
            obtain ⟨b, o, rfl, hb, hcs⟩ := HV.out.2 (fun e => by subst e; simp at hkl)
            obtain ⟨ao', ca', hc, hle, hok, hrow⟩ := hcs k hkl
            have hcw := hc.kept (((HG.out.trans (HW.out.trans HI.out.1 (fun _ _ h => h)) (fun _ _ h => h)) : Gr w wr).block b (HS.out b hb) id)
            have hcall := H44.out list[k] ao' ca' x (List.getElem_mem hkl) hok hrow
            have hI2 := HI.out.2
            rw [List.drop_eq_getElem_cons hkl, List.foldl_cons] at hI2
            obtain ⟨v, hve⟩ : ∃ v, v = list[k]'hkl := ⟨_, rfl⟩
            rw [← hve] at hcall hI2 hcw
            obtain ⟨c0, c1, c2, c3⟩ := hcw
            have HC := hidM hcall
            have HI2 := hidM hI2
            have HGr := hidM HI.out.1
            have hltI : (k : Int) < (L : Int) := by omega
            clear hcs hc hle hok hrow hcall hI2 hve HI
            go_wp2_with (go_at_call 45; refine Hid.out ?_)
            unfold Hid
            refine Calls.mono (HC.out _ (HG.out.trans (HW.out.trans HGr.out (fun _ _ h => h)) (fun _ _ h => h))) ?_
            rintro e w2 ⟨rfl, hg2⟩
            have HE := hidM (HGr.out.trans hg2 (fun _ _ h => h))
            clear hg2
            go_wp2_with fail
            go_roundw
            case rel => exact ⟨k + 1, by omega, by simp, _, rfl, HE.out, HI2.out⟩
            case measure => simp [intOf]; omega
          · have hkL : k = L := by omega
            subst hkL
            have HX : Hid (R = x) := by
              have h := HI.out.2
              rw [List.drop_of_length_le (by have := HLE.out; omega)] at h
              exact h
            have HGr := hidM HI.out.1
            clear HI
            go_wp2_with fail
            go_ret
            exact ⟨by rw [HX.out]; rfl, HW.out.trans HGr.out (fun _ _ h => h)⟩
/-- all depths -/
theorem hashed_any (S : Nat → Prop) (w : World) (hS : ∀ b, S b → b < w.heap.size) : ∀ (d : Nat) (v : VT) (ao : Option Addr) (ca : Nat) (h : Int), VOk v → VRow S w d ao v.list → ∀ W, Gr w W → Calls Tryd.prog 45 #[.int .u64 h, .agg #[.bool v.nul, .int .i64 v.num, .string v.text, .slice ao v.list.length ca]] W fun e w' => e = .returned (.int .u64 (hV d v h)) ∧ Gr W w'
  | 0, v, ao, ca, h, hok, hv, W, g => by
    have hl : v.list = [] := hv
    have := hashed_walk S 0 w hS v.nul v.num v.text ao ca v.list h hok.2 (hv.more (by omega)) (fun u uo uc h1 hu => by rw [hl] at hu; cases hu) W g
    rw [show hV (0 + 1) (.mk v.nul v.num v.text v.list) h = hV 0 v h by
      rw [hV, hV]
      show List.foldl _ _ v.list = _
      rw [hl]
      rfl] at this
    exact this
  | d + 1, v, ao, ca, h, hok, hv, W, g => hashed_walk S d w hS v.nul v.num v.text ao ca v.list h hok.2 hv (fun u uo uc h1 _ hu hr => hashed_any S w hS d u uo uc h1 hu hr) W g
set_option maxRecDepth 100000 in
theorem hash22 {v0 : Bool} {v1 : Int} {v2 : ByteArray} {vo : Option Addr} {m vc : Nat} {w : World} {R : Int}
    (h44 : ∀ W, Gr w W → Calls Tryd.prog 45 #[.int .u64 14695981039346656037, .agg #[.bool v0, .int .i64 v1, .string v2, .slice vo m vc]] W fun e w' => e = .returned (.int .u64 R) ∧ Gr W w') :
    ∀ W, Gr w W → Calls Tryd.prog 22 #[.agg #[.bool v0, .int .i64 v1, .string v2, .slice vo m vc]] W fun e w' => e = .returned (.int .u64 R) ∧ Gr W w' := by
  intro W g
  have HG := hidM (gr_alloc W (.cells #[.bool v0, .int .i64 v1, .string v2, .slice vo m vc] 29))
  have HC := hidM (h44 _ (g.trans HG.out (fun _ _ h => h)))
  clear h44 g
  go_enter Tryd.func22, Tryd.ntmps22
  go_wp2_with (go_at_call 45; refine Hid.out ?_)
  unfold Hid
  refine Calls.mono HC.out ?_
  rintro e w' ⟨rfl, hg⟩
  have HE := hidM (HG.out.trans hg (fun _ _ h => h))
  clear hg
  go_wp2_with fail
  go_ret
  exact ⟨rfl, HE.out⟩
end Go.Proofs.YtcfdkadhclickaaDoor.Kit
