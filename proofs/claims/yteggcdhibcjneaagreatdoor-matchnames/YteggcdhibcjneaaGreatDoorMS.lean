import Derived.Test.YteggcdhibcjneaaGreatDoorVG
import Derived.Test.YteggcdhibcjneaaGreatDoorVSA
set_option maxRecDepth 100000
set_option maxHeartbeats 4000000
namespace Go.Proofs.YteggcdhibcjneaaGreatDoor.Kit
open Go.RowKit Go.Shelf Go.Deep
set_option linter.unusedVariables false
attribute [local go_sem] run_store_func
/-! ### a value's hash: a function of its tree -/
def hB (h c : Int) : Int := IntKind.u64.wrap (bits BinOp.xor IntKind.u64 h (IntKind.u64.wrap c) * 1099511628211)
def hN : Nat → Int → Int → Int
  | 0, x, _ => x
  | k + 1, x, y => hN k (hB x (y % 256)) (y / 256)
theorem hashByte_any (h c : Int) (w : World) : Calls Tryz.prog 83 #[.int .u64 h, .int .u8 c] w fun e w' => e = .returned (.int .u64 (hB h c)) ∧ w = w' := by
  go_enter Tryz.func83, Tryz.ntmps83
  go_wp2
  go_ret
  exact ⟨rfl, rfl⟩
theorem hashNumber_any (h n : Int) (w : World) : Calls Tryz.prog 84 #[.int .u64 h, .int .u64 n] w fun e w' => e = .returned (.int .u64 (hN 8 h n)) ∧ w = w' := by
  have h64 : ∀ (h c : Int) (w : World), Calls Tryz.prog 83 #[.int .u64 h, .int .u8 c] w fun e w' => e = .returned (.int .u64 (hB h c)) ∧ w = w' := hashByte_any
  obtain ⟨R, hR⟩ : ∃ R, R = hN 8 h n := ⟨_, rfl⟩
  rw [← hR]
  have HR := hidM hR
  clear hR
  go_enter Tryz.func84, Tryz.ntmps84
  go_wp2
  go_loop [0, 1, 5] (fun a b i => ∃ k : Nat, k ≤ 8 ∧ i = .int .i64 (k : Int) ∧ ∃ x y, a = .int .u64 x ∧ b = .int .u64 y ∧ Hid (R = hN (8 - k) x y)) (fun a b i => 8 - (intOf i).toNat)
  case atStart => exact ⟨0, by omega, rfl, h, n, rfl, rfl, HR.out⟩
  case round =>
    obtain ⟨k, hk, rfl, x, y, rfl, rfl, HI⟩ := hrel
    by_cases hlt : k < 8
    · have HJ : Hid (R = hN (8 - (k + 1)) (hB x (y % 256)) (y / 256)) := by
        have := HI.out
        rw [show 8 - k = (8 - (k + 1)) + 1 by omega, hN] at this
        exact this
      clear HI
      go_wp2_with (go_at_call 83; refine (h64 _ _ _).mono ?_; rintro e w' ⟨rfl, rfl⟩)
      go_round
      case rel => exact ⟨k + 1, by omega, by simp, _, _, rfl, rfl, HJ.out⟩
      case measure => simp [intOf]; omega
    · obtain rfl : k = 8 := by omega
      have HJ : Hid (R = x) := HI.out
      clear HI
      go_wp2_with fail
      go_ret
      exact ⟨by rw [HJ.out]; rfl, rfl⟩
def hV : Nat → VT → Int → Int
  | 0, v, h => hN 8 (v.text.data.toList.foldl (fun h c => hB h (c.toNat : Int)) (hN 8 (hN 8 (hB h (if v.nul then 1 else 0)) (IntKind.u64.wrap v.num)) (v.text.size : Int))) (v.list.length : Int)
  | d + 1, v, h => v.list.foldl (fun h x => hV d x h) (hN 8 (v.text.data.toList.foldl (fun h c => hB h (c.toNat : Int)) (hN 8 (hN 8 (hB h (if v.nul then 1 else 0)) (IntKind.u64.wrap v.num)) (v.text.size : Int))) (v.list.length : Int))
theorem hash_walk (S : Nat → Prop) (d : Nat) (w : World) (hS : ∀ b, S b → b < w.heap.size) (v0 : Bool) (v1 : Int) (v2 : ByteArray) (vo : Option Addr) (vc : Nat) (list : List VT) (h0 : Int) (hz : v2.size ≤ 1000000000000) (hv : VRow S w (d + 1) vo list)
    (h44 : ∀ (v : VT) (ao : Option Addr) (ca : Nat) (h : Int), v ∈ list → VOk v → VRow S w d ao v.list → ∀ W, Gr w W → Calls Tryz.prog 64 #[.int .u64 h, .agg #[.bool v.nul, .int .i64 v.num, .string v.text, .slice ao v.list.length ca]] W fun e w' => e = .returned (.int .u64 (hV d v h)) ∧ Gr W w') :
    ∀ W, Gr w W → Calls Tryz.prog 64 #[.int .u64 h0, .agg #[.bool v0, .int .i64 v1, .string v2, .slice vo list.length vc]] W fun e w' => e = .returned (.int .u64 (hV (d + 1) (.mk v0 v1 v2 list) h0)) ∧ Gr W w' := by
  intro W g
  have h64 : ∀ (h c : Int) (w : World), Calls Tryz.prog 83 #[.int .u64 h, .int .u8 c] w fun e w' => e = .returned (.int .u64 (hB h c)) ∧ w = w' := hashByte_any
  have h65 : ∀ (h c : Int) (w : World), Calls Tryz.prog 84 #[.int .u64 h, .int .u64 c] w fun e w' => e = .returned (.int .u64 (hN 8 h c)) ∧ w = w' := hashNumber_any
  obtain ⟨R, hR⟩ : ∃ R, R = hV (d + 1) (.mk v0 v1 v2 list) h0 := ⟨_, rfl⟩
  rw [← hR]
  have HR := hidM hR
  obtain ⟨L, hL⟩ : ∃ L, L = list.length := ⟨_, rfl⟩
  rw [← hL]
  have hLb : L ≤ 1000000000000 := by rw [hL]; exact hv.len
  have HLE := hidM hL
  have HG := hidM g
  have HS := hidM hS
  have HV := hidM hv
  have H44 := hidM h44
  clear hR hL g hS hv h44
  obtain ⟨W1, hW1⟩ : ∃ W1, W.alloc (.cells #[.bool v0, .int .i64 v1, .string v2, .slice vo L vc] 86) = W1 := ⟨_, rfl⟩
  have gW : Gr W W1 := by rw [← hW1]; exact gr_alloc W _
  have b4 : B4 W1 W.heap.size v0 v1 v2 vo L vc := by unfold B4; rw [← hW1]; exact heap_alloc_new W _
  obtain ⟨p0, p1, p2, p3⟩ := b4.cells
  have HB4 := hidM b4
  have HW := hidM gW
  obtain ⟨H4, hH4⟩ : ∃ H4, H4 = v2.data.toList.foldl (fun h c => hB h (c.toNat : Int)) (hN 8 (hN 8 (hB h0 (if v0 then 1 else 0)) (IntKind.u64.wrap v1)) (v2.size : Int)) := ⟨_, rfl⟩
  have HR2 : Hid (R = list.foldl (fun h x => hV d x h) (hN 8 H4 (L : Int))) := by
    have := HR.out
    rw [hV] at this
    rw [hH4]
    show R = _
    rw [HLE.out]
    exact this
  have HH4 := hidM hH4
  clear hH4 HR b4 gW
  cases v0
  all_goals
    go_enter Tryz.func64, Tryz.ntmps64
    go_wp2_with (first | (go_at_call 83; refine (h64 _ _ _).mono ?_; rintro e w' ⟨rfl, rfl⟩) | (go_at_call 84; refine (h65 _ _ _).mono ?_; rintro e w' ⟨rfl, rfl⟩))
    clear hW1
    go_loop [0, 28] (fun a i => ∃ k : Nat, k ≤ v2.size ∧ i = .int .i64 (k : Int) ∧ ∃ x, a = .int .u64 x ∧ Hid (H4 = (v2.data.toList.drop k).foldl (fun h c => hB h (c.toNat : Int)) x)) (fun a i => v2.size - (intOf i).toNat)
    case atStart => exact ⟨0, by omega, rfl, _, rfl, HH4.out⟩
    case round =>
      obtain ⟨k, hk, rfl, x, rfl, HI⟩ := hrel
      by_cases hlt : k < v2.size
      · have hltI : (k : Int) < (v2.size : Int) := by omega
        have HJ : Hid (H4 = (v2.data.toList.drop (k + 1)).foldl (fun h c => hB h (c.toNat : Int)) (hB x ((v2[k]'hlt).toNat : Int))) := by
          have h := HI.out
          rw [List.drop_eq_getElem_cons (show k < v2.data.toList.length from hlt), List.foldl_cons] at h
          exact h
        clear HI
        go_wp2_with (go_at_call 83; refine (h64 _ _ _).mono ?_; rintro e w' ⟨rfl, rfl⟩)
        go_round
        case rel => exact ⟨k + 1, by omega, by simp, _, rfl, HJ.out⟩
        case measure => simp [intOf]; omega
      · obtain rfl : k = v2.size := by omega
        have HJ : Hid (H4 = x) := by
          have h := HI.out
          rw [List.drop_of_length_le (show v2.data.toList.length ≤ v2.size from Nat.le_of_eq rfl)] at h
          exact h
        have HR3 : Hid (R = list.foldl (fun h x => hV d x h) (hN 8 x (L : Int))) := by show R = _; rw [← HJ.out]; exact HR2.out
        clear HI HJ
        go_wp2_with (go_at_call 84; refine (h65 _ _ _).mono ?_; rintro e w' ⟨rfl, rfl⟩)
        go_loopw [0, 47] (fun a i wr => ∃ k : Nat, k ≤ L ∧ i = .int .i64 (k : Int) ∧ ∃ x, a = .int .u64 x ∧ Hid (Gr W wr ∧ R = (list.drop k).foldl (fun h x => hV d x h) x)) (fun a i _ => L - (intOf i).toNat)
        case atStart => exact ⟨0, by omega, rfl, _, rfl, HW.out, HR3.out⟩
        case round =>
          obtain ⟨k, hk, rfl, x, rfl, HI⟩ := hrel
          by_cases hlt : k < L
          · have hkl : k < list.length := by have := HLE.out; omega
            obtain ⟨b, o, rfl, hb, hcs⟩ := HV.out.2 (fun e => by subst e; simp at hkl)
            obtain ⟨ao', ca', hc, hle, hok, hrow⟩ := hcs k hkl
            have hcw := hc.kept (((HG.out.trans HI.out.1 (fun _ _ h => h)) : Gr w wr).block b (HS.out b hb) id)
            have hcall := H44.out list[k] ao' ca' x (List.getElem_mem hkl) hok hrow
            have hI2 := HI.out.2
            rw [List.drop_eq_getElem_cons hkl, List.foldl_cons] at hI2
            obtain ⟨v, hve⟩ : ∃ v, v = list[k]'hkl := ⟨_, rfl⟩
            rw [← hve] at hcall hI2 hcw
            obtain ⟨c0, c1, c2, c3⟩ := hcw
            have HC := hidM hcall
            have HI2 := hidM hI2
            have HGr := hidM HI.out.1
            have hltI : (k : Int) < (L : Int) := by omega
            clear hcs hc hle hok hrow hcall hI2 hve HI
            go_wp2_with (go_at_call 64; refine Hid.out ?_)
            unfold Hid
            refine Calls.mono (HC.out _ (HG.out.trans (HGr.out.alloc _) (fun _ _ h => h))) ?_
            rintro e w2 ⟨rfl, hg2⟩
            have HE := hidM ((HGr.out.alloc _).trans hg2 (fun _ _ h => h))
            clear hg2
            go_wp2_with fail
            go_roundw
            case rel => exact ⟨k + 1, by omega, by simp, _, rfl, HE.out, HI2.out⟩
            case measure => simp [intOf]; omega
          · have hkL : k = L := by omega
            subst hkL
            have HX : Hid (R = x) := by
              have h := HI.out.2
              rw [List.drop_of_length_le (by have := HLE.out; omega)] at h
              exact h
            have HGr := hidM HI.out.1
            clear HI
            go_wp2_with fail
            go_ret
            exact ⟨by rw [HX.out]; rfl, HGr.out⟩
/-- all depths -/
theorem hash_any (S : Nat → Prop) (w : World) (hS : ∀ b, S b → b < w.heap.size) : ∀ (d : Nat) (v : VT) (ao : Option Addr) (ca : Nat) (h : Int), VOk v → VRow S w d ao v.list → ∀ W, Gr w W → Calls Tryz.prog 64 #[.int .u64 h, .agg #[.bool v.nul, .int .i64 v.num, .string v.text, .slice ao v.list.length ca]] W fun e w' => e = .returned (.int .u64 (hV d v h)) ∧ Gr W w'
  | 0, v, ao, ca, h, hok, hv, W, g => by
    have hl : v.list = [] := hv
    have := hash_walk S 0 w hS v.nul v.num v.text ao ca v.list h hok.2 (hv.more (by omega)) (fun u uo uc h1 hu => by rw [hl] at hu; cases hu) W g
    rw [show hV (0 + 1) (.mk v.nul v.num v.text v.list) h = hV 0 v h by
      rw [hV, hV]
      show List.foldl _ _ v.list = _
      rw [hl]
      rfl] at this
    exact this
  | d + 1, v, ao, ca, h, hok, hv, W, g => hash_walk S d w hS v.nul v.num v.text ao ca v.list h hok.2 hv (fun u uo uc h1 _ hu hr => hash_any S w hS d u uo uc h1 hu hr) W g
theorem hash21 {v0 : Bool} {v1 : Int} {v2 : ByteArray} {vo : Option Addr} {m vc : Nat} {w : World} {R : Int}
    (h44 : ∀ W, Gr w W → Calls Tryz.prog 64 #[.int .u64 14695981039346656037, .agg #[.bool v0, .int .i64 v1, .string v2, .slice vo m vc]] W fun e w' => e = .returned (.int .u64 R) ∧ Gr W w') :
    ∀ W, Gr w W → Calls Tryz.prog 47 #[.agg #[.bool v0, .int .i64 v1, .string v2, .slice vo m vc]] W fun e w' => e = .returned (.int .u64 R) ∧ Gr W w' := by
  intro W g
  have HG := hidM (gr_alloc W (.cells #[.bool v0, .int .i64 v1, .string v2, .slice vo m vc] 86))
  have HC := hidM (h44 _ (g.trans HG.out (fun _ _ h => h)))
  clear h44 g
  go_enter Tryz.func47, Tryz.ntmps47
  go_wp2_with (go_at_call 64; refine Hid.out ?_)
  unfold Hid
  refine Calls.mono HC.out ?_
  rintro e w' ⟨rfl, hg⟩
  have HE := hidM (HG.out.trans hg (fun _ _ h => h))
  clear hg
  go_wp2_with fail
  go_ret
  exact ⟨rfl, HE.out⟩
end Go.Proofs.YteggcdhibcjneaaGreatDoor.Kit
namespace Go.Proofs.YteggcdhibcjneaaGreatDoor.Kit
variable {nx : Bool}
open Go.RowKit Go.Shelf Go.Deep
open Go.Proofs.YteggcdhibcjneaaGreatDoor.Kd (Ans AnsV cell5 cell2)
set_option linter.unusedVariables false
set_option linter.unusedSimpArgs false
attribute [local go_sem] run_store_func

/-- the keys of a row that holds one number, in memory -/
def RwV (W : World) (l : Nat) (x : Int) : Prop := W.cell? ⟨l, 0, none⟩ = some (.bool false) ∧ W.cell? ⟨l, 1, none⟩ = some (.int .i64 x) ∧ W.cell? ⟨l, 2, none⟩ = some (.string ⟨#[]⟩) ∧ W.cell? ⟨l, 3, none⟩ = some (.slice none 0 0)
theorem RwV.gr {W u : World} {l : Nat} {x : Int} (h : RwV W l x) (g : Gr W u) : RwV u l x := ⟨g.cell' h.1 id, g.cell' h.2.1 id, g.cell' h.2.2.1 id, g.cell' h.2.2.2 id⟩
def vT (x : Int) : VT := .mk false x ⟨#[]⟩ []
def rT (x : Int) : VT := .mk false 0 ⟨#[]⟩ [vT x]
def hR (x : Int) : Int := hV 1 (rT x) 14695981039346656037
theorem hR58 : (hR 5 == hR 8) = false := by kernel_rfl
theorem hR57 : (hR 5 == hR 7) = false := by kernel_rfl
theorem hR78 : (hR 7 == hR 8) = false := by kernel_rfl
theorem vT_ok {x : Int} (hx : x = 5 ∨ x = 7 ∨ x = 8) : VOk (vT x) := ⟨by show is64 x; unfold is64; omega, by show (⟨#[]⟩ : ByteArray).size ≤ big; decide⟩
theorem rT_ok (x : Int) : VOk (rT x) := ⟨by show is64 0; unfold is64; omega, by show (⟨#[]⟩ : ByteArray).size ≤ big; decide⟩
theorem RwV.row {S : Nat → Prop} {W : World} {l : Nat} {x : Int} (h : RwV W l x) (hS : S l) (hx : x = 5 ∨ x = 7 ∨ x = 8) : VRow S W 1 (some ⟨l, 0, none⟩) [vT x] := by
  refine ⟨by show (1 : Nat) ≤ big; decide, fun _ => ⟨l, 0, rfl, hS, fun i hi => ?_⟩⟩
  obtain rfl : i = 0 := by simpa using hi
  exact ⟨none, 0, ⟨h.1, h.2.1, h.2.2.1, h.2.2.2⟩, Nat.le_refl _, vT_ok hx, rfl⟩
theorem hash47r (l c : Nat) (x : Int) (W : World) (h : RwV W l x) (hx : x = 5 ∨ x = 7 ∨ x = 8) : Calls Tryz.prog 47 #[.agg #[.bool false, .int .i64 0, .string ⟨#[]⟩, .slice (some ⟨l, 0, none⟩) 1 c]] W fun e w' => e = .returned (.int .u64 (hR x)) ∧ Gr W w' := by
  have hl : l < W.heap.size := block_lt_of_cell h.1
  exact hash21 (hash_any (fun z => z = l) W (fun b hb => by have e : b = l := hb; omega) 1 (rT x) (some ⟨l, 0, none⟩) c 14695981039346656037 (rT_ok x) (h.row rfl hx)) W (Keeps.refl _ _)
theorem same67r (l c m d : Nat) (x : Int) (W : World) (h : RwV W l x) (h2 : RwV W m x) (hx : x = 5 ∨ x = 7 ∨ x = 8) : Calls Tryz.prog 67 #[.agg #[.bool false, .int .i64 0, .string ⟨#[]⟩, .slice (some ⟨l, 0, none⟩) 1 c], .agg #[.bool false, .int .i64 0, .string ⟨#[]⟩, .slice (some ⟨m, 0, none⟩) 1 d]] W fun e w' => e = .returned (.bool true) ∧ Gr W w' := by
  have hl : l < W.heap.size := block_lt_of_cell h.1
  have hm : m < W.heap.size := block_lt_of_cell h2.1
  have ha := same_any (fun z => z = l ∨ z = m) 1 W (some ⟨l, 0, none⟩) (some ⟨m, 0, none⟩) c d [vT x] [vT x] (h.row (.inl rfl) hx) (h2.row (.inr rfl) hx) (fun b hb => by rcases hb with e | e <;> omega)
  have hs := same_walk false false 0 0 ⟨#[]⟩ ⟨#[]⟩ (some ⟨l, 0, none⟩) (some ⟨m, 0, none⟩) 1 c 1 d _ W ha
  have hv : sameVL 1 [vT x] [vT x] = true := by
    rw [sameVL_succ]
    refine sameAll_true rfl (fun i h1 h2 => ?_)
    obtain rfl : i = 0 := by simpa using h1
    exact (same_iff 0 (vT x) (vT x) rfl rfl).2 rfl
  rw [hv] at hs
  have h9 := hs W (Keeps.refl _ _)
  rw [(sEq_iff ⟨#[]⟩ ⟨#[]⟩).2 rfl] at h9
  exact h9
end Go.Proofs.YteggcdhibcjneaaGreatDoor.Kit
namespace Go.Proofs.YteggcdhibcjneaaGreatDoor.Kit
variable {nx : Bool}
open Go.RowKit Go.Shelf Go.Deep
open Go.Proofs.YteggcdhibcjneaaGreatDoor.Kd (Ans AnsV cell5 cell2)
set_option linter.unusedVariables false
set_option linter.unusedSimpArgs false
attribute [local go_sem] run_store_func

theorem null63 (x : Int) (W : World) : Calls Tryz.prog 63 #[.agg #[.bool false, .int .i64 x, .string ⟨#[]⟩, .slice none 0 0]] W fun e w' => e = .returned (.bool false) ∧ Gr W w' := by
  obtain ⟨A0, hA0⟩ : ∃ A, W.alloc (.cells #[.bool false, .int .i64 x, .string ⟨#[]⟩, .slice none 0 0] 86) = A := ⟨_, rfl⟩
  have g0 : Gr W A0 := by rw [← hA0]; exact gr_alloc W _
  have b0 : A0.heap[W.heap.size]? = some (.cells #[.bool false, .int .i64 x, .string ⟨#[]⟩, .slice none 0 0] 86) := by rw [← hA0]; exact heap_alloc_new W _
  have HG := hidM g0
  obtain ⟨e0, e1, e2, e3⟩ := cell4 b0
  clear g0 b0
  go_enter Tryz.func63, Tryz.ntmps63
  go_wp2_with fail
  go_ret
  exact ⟨rfl, HG.out⟩
theorem idx82 (l c : Nat) (x : Int) (W : World) (h : RwV W l x) : Calls Tryz.prog 82 #[.slice (some ⟨l, 0, none⟩) 1 c, .func (.func 63) #[] #[]] W fun e w' => e = .returned (.int .i64 (-1)) ∧ Gr W w' := by
  have HR := hidM h
  clear h
  go_enter Tryz.func82, Tryz.ntmps82
  go_wp2_with fail
  go_loopw [8] (fun i wr => ∃ k : Nat, k ≤ 1 ∧ i = .int .i64 k ∧ Hid (Gr W wr)) (fun i _ => 1 - (intOf i).toNat)
  case atStart => exact ⟨0, by omega, rfl, Keeps.refl _ _⟩
  case round =>
    obtain ⟨k, hk, rfl, HG⟩ := hrel
    have hk3 : k = 0 ∨ k = 1 := by omega
    rcases hk3 with rfl | rfl
    · obtain ⟨a0, a1, a2, a3⟩ := HR.out.gr HG.out
      go_wp2_with (go_at_call 63; refine (null63 x _).mono ?_; rintro e w1 ⟨rfl, g1⟩; have HG1 := hidM (HG.out.trans g1 (fun _ _ h => h)); clear g1)
      go_roundw
      case rel => exact ⟨1, by omega, by go_num, HG1⟩
      case measure => simp [intOf]
    · go_wp2_with fail
      go_ret
      exact ⟨rfl, HG.out⟩
theorem has62 (l c : Nat) (x : Int) (W : World) (h : RwV W l x) : Calls Tryz.prog 62 #[.slice (some ⟨l, 0, none⟩) 1 c, .func (.func 63) #[] #[]] W fun e w' => e = .returned (.bool false) ∧ Gr W w' := by
  have HC := hidM (idx82 l c x W h)
  clear h
  go_enter Tryz.func62, Tryz.ntmps62
  go_wp2_with (go_at_call 82; refine HC.out.mono ?_; rintro e w1 ⟨rfl, g1⟩; have HG1 := hidM g1; clear g1)
  go_ret
  exact ⟨rfl, HG1.out⟩
theorem holdsNull46 (l c : Nat) (x : Int) (W : World) (h : RwV W l x) : Calls Tryz.prog 46 #[.agg #[.bool false, .int .i64 0, .string ⟨#[]⟩, .slice (some ⟨l, 0, none⟩) 1 c]] W fun e w' => e = .returned (.bool false) ∧ Gr W w' := by
  obtain ⟨A0, hA0⟩ : ∃ A, W.alloc (.cells #[.bool false, .int .i64 0, .string ⟨#[]⟩, .slice (some ⟨l, 0, none⟩) 1 c] 86) = A := ⟨_, rfl⟩
  have g0 : Gr W A0 := by rw [← hA0]; exact gr_alloc W _
  have b0 : A0.heap[W.heap.size]? = some (.cells #[.bool false, .int .i64 0, .string ⟨#[]⟩, .slice (some ⟨l, 0, none⟩) 1 c] 86) := by rw [← hA0]; exact heap_alloc_new W _
  have HG := hidM g0
  have HC := hidM (has62 l c x A0 (h.gr g0))
  obtain ⟨e0, e1, e2, e3⟩ := cell4 b0
  clear g0 b0 h
  go_enter Tryz.func46, Tryz.ntmps46
  go_wp2_with (go_at_call 62; refine HC.out.mono ?_; rintro e w1 ⟨rfl, g1⟩; have HG1 := hidM (HG.out.trans g1 (fun _ _ h => h)); clear g1)
  go_ret
  exact ⟨rfl, HG1.out⟩
/-- a map of hashes, by what it says -/
def mkE : List (Int × Value) → Nat → List MapEntry
  | [], _ => []
  | y :: l, b => { key := .int .u64 y.1, val := y.2, born := b } :: mkE l (b + 1)
def lkO : List (Int × Value) → Int → Nat → Option (Nat × Value)
  | [], _, _ => none
  | y :: l, h, i => if (h == y.1) = true then some (i, y.2) else lkO l h (i + 1)
def lkV (l : List (Int × Value)) (h : Int) : Value := ((lkO l h 0).map (·.2)).getD (.slice none 0 0)
theorem findNow_mk (h : Int) : ∀ (l : List (Int × Value)) (b i : Nat), Instr.findNow (.int .u64) (.int .u64 h) (mkE l b) i = some (lkO l h i)
  | [], _, _ => rfl
  | y :: l, b, i => by
    simp only [mkE, lkO, Instr.findNow, Instr.sameNow, if_true]
    by_cases e : (h == y.1) = true
    · simp [e]
    · simp only [Bool.not_eq_true] at e
      simp [e, findNow_mk h l (b + 1) (i + 1)]
theorem mkE_len : ∀ (l : List (Int × Value)) (b : Nat), (mkE l b).length = l.length
  | [], _ => rfl
  | _ :: l, b => by simp [mkE, mkE_len l (b + 1)]
theorem mkE_snoc (y : Int × Value) : ∀ (l : List (Int × Value)) (b : Nat), mkE (l ++ [y]) b = mkE l b ++ [{ key := .int .u64 y.1, val := y.2, born := b + l.length }]
  | [], b => rfl
  | _ :: l, b => by simp [mkE, mkE_snoc y l (b + 1), Nat.add_comm, Nat.add_left_comm]
/-- the map in memory -/
def MpAt (W : World) (m : Nat) (l : List (Int × Value)) : Prop := W.heap[m]? = some (.map (mkE l 0).toArray l.length)
theorem checkKey_run (b : Bool) (h : Int) (w : World) : (Instr.checkKey b 10000 106 (.int .u64 h)).run Tryz.prog w = .ok () w := by kernel_rfl
theorem findKey_run (l : List (Int × Value)) (h : Int) (w : World) : (Instr.findKey 106 (.int .u64 h) (mkE l 0)).run Tryz.prog w = .ok (lkO l h 0) w := by
  have hu6 : ∀ w, (underlying 106).run Tryz.prog w = .ok (.int .u64) w := fun w => by kernel_rfl
  unfold Instr.findKey
  simp [hu6, go_sem, findNow_mk]
theorem run_lk (W : World) (m : Nat) (l : List (Int × Value)) (h : Int) (hm : MpAt W m l) : (Instr.lookup 80 (.map (some m)) (.int .u64 h) false).run Tryz.prog W = .ok (lkV l h) W := by
  have hu : ∀ w, (underlying 80).run Tryz.prog w = .ok (.map 106 109) w := fun w => by kernel_rfl
  have hz : ∀ w, (zeroValue 109).run Tryz.prog w = .ok (.slice none 0 0) w := fun w => by kernel_rfl
  have hg : (getObj m).run Tryz.prog W = .ok (.map (mkE l 0).toArray l.length) W := by
    unfold MpAt at hm
    simp [getObj, Sem.run, hm]
  unfold Instr.lookup lkV
  simp [hu, hg, go_sem, checkKey_run, findKey_run]
  cases lkO l h 0 with
  | none => simp [hz]
  | some y => simp
theorem run_up (W : World) (m : Nat) (l : List (Int × Value)) (h : Int) (v : Value) (hm : MpAt W m l) (hn : lkO l h 0 = none) : (Instr.mapUpdate 80 (.map (some m)) (.int .u64 h) v).run Tryz.prog W = .ok () (W.putObj m (.map (mkE (l ++ [(h, v)]) 0).toArray (l.length + 1))) := by
  have hu : ∀ w, (underlying 80).run Tryz.prog w = .ok (.map 106 109) w := fun w => by kernel_rfl
  have hg : (getObj m).run Tryz.prog W = .ok (.map (mkE l 0).toArray l.length) W := by
    unfold MpAt at hm
    simp [getObj, Sem.run, hm]
  have hs : ∀ o, (setObj m o).run Tryz.prog W = .ok () (W.putObj m o) := fun o => by
    unfold MpAt at hm
    simp [setObj, Sem.run, hm, World.putObj]
  unfold Instr.mapUpdate
  simp [hu, hg, hs, go_sem, checkKey_run, findKey_run, hn, mkE_snoc]
end Go.Proofs.YteggcdhibcjneaaGreatDoor.Kit
namespace Go.Proofs.YteggcdhibcjneaaGreatDoor.Kit
variable {nx : Bool}
open Go.RowKit Go.Shelf Go.Deep
open Go.Proofs.YteggcdhibcjneaaGreatDoor.Kd (Ans AnsV cell5 cell2)
set_option linter.unusedVariables false
set_option linter.unusedSimpArgs false
attribute [local go_sem] run_store_func

theorem idx65_0 (f : Value) (W : World) : Calls Tryz.prog 65 #[.slice none 0 0, f] W fun e w' => e = .returned (.int .i64 (-1)) ∧ w' = W := by
  go_enter Tryz.func65, Tryz.ntmps65
  go_wp2_with fail
  go_loopw [8] (fun i wr => i = .int .i64 0 ∧ wr = W) (fun _ _ => 0)
  case atStart => exact ⟨rfl, rfl⟩
  case round =>
    obtain ⟨rfl, rfl⟩ := hrel
    go_wp2_with fail
    go_ret
    exact ⟨rfl, rfl⟩
theorem place66 (t1 t2 ib ic rb rc l1 c1 l2 c2 : Nat) (x : Int) (hx : x = 5 ∨ x = 7 ∨ x = 8) (W : World) (h : W.cell? ⟨t1, 0, none⟩ = some (.slice (some ⟨rb, 0, none⟩) 2 rc) ∧ W.cell? ⟨ib, 0, none⟩ = some (.int .i64 1) ∧ W.cell? ⟨rb, 4, none⟩ = some (.bool false) ∧ W.cell? ⟨rb, 5, none⟩ = some (.int .i64 0) ∧ W.cell? ⟨rb, 6, none⟩ = some (.string ⟨#[]⟩) ∧ W.cell? ⟨rb, 7, none⟩ = some (.slice (some ⟨l1, 0, none⟩) 1 c1) ∧ W.cell? ⟨t2, 0, none⟩ = some (.bool false) ∧ W.cell? ⟨t2, 1, none⟩ = some (.int .i64 0) ∧ W.cell? ⟨t2, 2, none⟩ = some (.string ⟨#[]⟩) ∧ W.cell? ⟨t2, 3, none⟩ = some (.slice (some ⟨l2, 0, none⟩) 1 c2)) (h1 : RwV W l1 x) (h2 : RwV W l2 x) : Calls Tryz.prog 66 #[.slice (some ⟨ib, 0, none⟩) 1 ic, .pointer (some ⟨t1, 0, none⟩), .pointer (some ⟨t2, 0, none⟩)] W fun e w' => e = .returned (.bool true) ∧ Gr W w' := by
  obtain ⟨a0, a1, b0, b1, b2, b3, d0, d1, d2, d3⟩ := h
  have HSS : Hid (∀ u, Gr W u → u.cell? ⟨t1, 0, none⟩ = some (.slice (some ⟨rb, 0, none⟩) 2 rc) ∧ u.cell? ⟨ib, 0, none⟩ = some (.int .i64 1) ∧ u.cell? ⟨rb, 4, none⟩ = some (.bool false) ∧ u.cell? ⟨rb, 5, none⟩ = some (.int .i64 0) ∧ u.cell? ⟨rb, 6, none⟩ = some (.string ⟨#[]⟩) ∧ u.cell? ⟨rb, 7, none⟩ = some (.slice (some ⟨l1, 0, none⟩) 1 c1) ∧ u.cell? ⟨t2, 0, none⟩ = some (.bool false) ∧ u.cell? ⟨t2, 1, none⟩ = some (.int .i64 0) ∧ u.cell? ⟨t2, 2, none⟩ = some (.string ⟨#[]⟩) ∧ u.cell? ⟨t2, 3, none⟩ = some (.slice (some ⟨l2, 0, none⟩) 1 c2)) := fun u g => ⟨g.cell' a0 id, g.cell' a1 id, g.cell' b0 id, g.cell' b1 id, g.cell' b2 id, g.cell' b3 id, g.cell' d0 id, g.cell' d1 id, g.cell' d2 id, g.cell' d3 id⟩
  have HD : Hid (Gr W W.drew) := gr_drew
  have HSd := hidM (HSS.out W.drew HD.out)
  have HC := hidM (same67r l1 c1 l2 c2 x W.drew (h1.gr HD.out) (h2.gr HD.out) hx)
  clear a0 a1 b0 b1 b2 b3 d0 d1 d2 d3 h1 h2
  go_enter Tryz.func66, Tryz.ntmps66
  go_wp2_with fail
  go_region_held3 (fun u => u.cell? ⟨t1, 0, none⟩ = some (.slice (some ⟨rb, 0, none⟩) 2 rc) ∧ u.cell? ⟨ib, 0, none⟩ = some (.int .i64 1) ∧ u.cell? ⟨rb, 4, none⟩ = some (.bool false) ∧ u.cell? ⟨rb, 5, none⟩ = some (.int .i64 0) ∧ u.cell? ⟨rb, 6, none⟩ = some (.string ⟨#[]⟩) ∧ u.cell? ⟨rb, 7, none⟩ = some (.slice (some ⟨l1, 0, none⟩) 1 c1) ∧ u.cell? ⟨t2, 0, none⟩ = some (.bool false) ∧ u.cell? ⟨t2, 1, none⟩ = some (.int .i64 0) ∧ u.cell? ⟨t2, 2, none⟩ = some (.string ⟨#[]⟩) ∧ u.cell? ⟨t2, 3, none⟩ = some (.slice (some ⟨l2, 0, none⟩) 1 c2)) (first | with_reducible exact HSd.out | with_reducible exact HS1.out) ((go_at_call 67; refine HC.out.mono ?_; rintro e w1 ⟨rfl, g1⟩; have HG1 := hidM (HD.out.trans g1 (fun _ _ h => h)); have HS1 := hidM (HSS.out w1 HG1.out); clear g1))
  go_wp2_with fail
  go_ret
  exact ⟨rfl, HG1.out⟩
theorem idx65_1 (t1 t2 lb lc ib ic rb rc l1 c1 l2 c2 : Nat) (x : Int) (hx : x = 5 ∨ x = 7 ∨ x = 8) (W : World) (hl : W.cell? ⟨lb, 0, none⟩ = some (.slice (some ⟨ib, 0, none⟩) 1 ic)) (h : W.cell? ⟨t1, 0, none⟩ = some (.slice (some ⟨rb, 0, none⟩) 2 rc) ∧ W.cell? ⟨ib, 0, none⟩ = some (.int .i64 1) ∧ W.cell? ⟨rb, 4, none⟩ = some (.bool false) ∧ W.cell? ⟨rb, 5, none⟩ = some (.int .i64 0) ∧ W.cell? ⟨rb, 6, none⟩ = some (.string ⟨#[]⟩) ∧ W.cell? ⟨rb, 7, none⟩ = some (.slice (some ⟨l1, 0, none⟩) 1 c1) ∧ W.cell? ⟨t2, 0, none⟩ = some (.bool false) ∧ W.cell? ⟨t2, 1, none⟩ = some (.int .i64 0) ∧ W.cell? ⟨t2, 2, none⟩ = some (.string ⟨#[]⟩) ∧ W.cell? ⟨t2, 3, none⟩ = some (.slice (some ⟨l2, 0, none⟩) 1 c2)) (h1 : RwV W l1 x) (h2 : RwV W l2 x) : Calls Tryz.prog 65 #[.slice (some ⟨lb, 0, none⟩) 1 lc, .func (.func 66) #[] #[.pointer (some ⟨t1, 0, none⟩), .pointer (some ⟨t2, 0, none⟩)]] W fun e w' => e = .returned (.int .i64 0) ∧ Gr W w' := by
  have HC := hidM (place66 t1 t2 ib ic rb rc l1 c1 l2 c2 x hx W h h1 h2)
  clear h h1 h2
  go_enter Tryz.func65, Tryz.ntmps65
  go_wp2_with fail
  go_loopw [8] (fun i wr => i = .int .i64 0 ∧ wr = W) (fun _ _ => 0)
  case atStart => exact ⟨rfl, rfl⟩
  case round =>
    obtain ⟨rfl, rfl⟩ := hrel
    go_wp2_with (go_at_call 66; refine HC.out.mono ?_; rintro e w1 ⟨rfl, g1⟩; have HG1 := hidM g1; clear g1)
    go_ret
    exact ⟨rfl, HG1.out⟩
theorem place48_no (rb rc m l2 c2 : Nat) (l : List (Int × Value)) (h : Int) (W : World) (hm : MpAt W m l) (hn : lkO l h 0 = none) : Calls Tryz.prog 48 #[.agg #[.slice (some ⟨rb, 0, none⟩) 2 rc, .map (some m)], .int .u64 h, .agg #[.bool false, .int .i64 0, .string ⟨#[]⟩, .slice (some ⟨l2, 0, none⟩) 1 c2]] W fun e w' => e = .returned (.int .i64 (-1)) ∧ Gr W w' := by
  have hmf : ∀ (fn : Fn) (first cap : Array Value) (w : World), (Instr.makeFunc fn first cap).run Tryz.prog w = .ok (.func fn first cap) w := fun _ _ _ _ => rfl
  obtain ⟨A0, hA0⟩ : ∃ A, W.alloc (.cells #[.slice (some ⟨rb, 0, none⟩) 2 rc, .map (some m)] 82) = A := ⟨_, rfl⟩
  have g0 : Gr W A0 := by rw [← hA0]; exact gr_alloc W _
  have b0 : A0.heap[W.heap.size]? = some (.cells #[.slice (some ⟨rb, 0, none⟩) 2 rc, .map (some m)] 82) := by rw [← hA0]; exact heap_alloc_new W _
  obtain ⟨A1, hA1⟩ : ∃ A, A0.alloc (.cells #[.bool false, .int .i64 0, .string ⟨#[]⟩, .slice (some ⟨l2, 0, none⟩) 1 c2] 86) = A := ⟨_, rfl⟩
  have g1 : Gr A0 A1 := by rw [← hA1]; exact gr_alloc A0 _
  have b1 : A1.heap[A0.heap.size]? = some (.cells #[.bool false, .int .i64 0, .string ⟨#[]⟩, .slice (some ⟨l2, 0, none⟩) 1 c2] 86) := by rw [← hA1]; exact heap_alloc_new A0 _
  have gW : Gr W A1 := g0.trans g1 (fun _ _ h => h)
  have HG := hidM gW
  obtain ⟨e0, e1⟩ := cell2 ((g1.block _ (lt_of_heap b0) id).trans b0)
  have hlk := run_lk A1 m l h ((gW.block _ (lt_of_heap hm) id).trans hm)
  rw [show lkV l h = .slice none 0 0 by unfold lkV; rw [hn]; rfl] at hlk
  clear g0 b0 g1 b1 gW hm hn
  go_enter Tryz.func48, Tryz.ntmps48
  go_wp2_with (go_at_call 65; refine (idx65_0 _ _).mono ?_; rintro e w1 ⟨rfl, rfl⟩)
  go_ret
  exact ⟨rfl, HG.out⟩
theorem place48_1 (rb rc m l2 c2 lb lc ib ic l1 c1 : Nat) (l : List (Int × Value)) (h x : Int) (hx : x = 5 ∨ x = 7 ∨ x = 8) (W : World) (hm : MpAt W m l) (hn : lkV l h = .slice (some ⟨lb, 0, none⟩) 1 lc) (hl : W.cell? ⟨lb, 0, none⟩ = some (.slice (some ⟨ib, 0, none⟩) 1 ic)) (hi : W.cell? ⟨ib, 0, none⟩ = some (.int .i64 1)) (hr : W.cell? ⟨rb, 4, none⟩ = some (.bool false) ∧ W.cell? ⟨rb, 5, none⟩ = some (.int .i64 0) ∧ W.cell? ⟨rb, 6, none⟩ = some (.string ⟨#[]⟩) ∧ W.cell? ⟨rb, 7, none⟩ = some (.slice (some ⟨l1, 0, none⟩) 1 c1)) (h1 : RwV W l1 x) (h2 : RwV W l2 x) : Calls Tryz.prog 48 #[.agg #[.slice (some ⟨rb, 0, none⟩) 2 rc, .map (some m)], .int .u64 h, .agg #[.bool false, .int .i64 0, .string ⟨#[]⟩, .slice (some ⟨l2, 0, none⟩) 1 c2]] W fun e w' => e = .returned (.int .i64 0) ∧ Gr W w' := by
  have hmf : ∀ (fn : Fn) (first cap : Array Value) (w : World), (Instr.makeFunc fn first cap).run Tryz.prog w = .ok (.func fn first cap) w := fun _ _ _ _ => rfl
  obtain ⟨A0, hA0⟩ : ∃ A, W.alloc (.cells #[.slice (some ⟨rb, 0, none⟩) 2 rc, .map (some m)] 82) = A := ⟨_, rfl⟩
  have g0 : Gr W A0 := by rw [← hA0]; exact gr_alloc W _
  have b0 : A0.heap[W.heap.size]? = some (.cells #[.slice (some ⟨rb, 0, none⟩) 2 rc, .map (some m)] 82) := by rw [← hA0]; exact heap_alloc_new W _
  obtain ⟨A1, hA1⟩ : ∃ A, A0.alloc (.cells #[.bool false, .int .i64 0, .string ⟨#[]⟩, .slice (some ⟨l2, 0, none⟩) 1 c2] 86) = A := ⟨_, rfl⟩
  have g1 : Gr A0 A1 := by rw [← hA1]; exact gr_alloc A0 _
  have b1 : A1.heap[A0.heap.size]? = some (.cells #[.bool false, .int .i64 0, .string ⟨#[]⟩, .slice (some ⟨l2, 0, none⟩) 1 c2] 86) := by rw [← hA1]; exact heap_alloc_new A0 _
  have gW : Gr W A1 := g0.trans g1 (fun _ _ h => h)
  have HG := hidM gW
  obtain ⟨e0, e1⟩ := cell2 ((g1.block _ (lt_of_heap b0) id).trans b0)
  obtain ⟨d0, d1, d2, d3⟩ := cell4 b1
  obtain ⟨r0, r1, r2, r3⟩ := hr
  have hlk := run_lk A1 m l h ((gW.block _ (lt_of_heap hm) id).trans hm)
  rw [hn] at hlk
  have HC := hidM (idx65_1 W.heap.size A0.heap.size lb lc ib ic rb rc l1 c1 l2 c2 x hx A1 (gW.cell' hl id) ⟨e0, gW.cell' hi id, gW.cell' r0 id, gW.cell' r1 id, gW.cell' r2 id, gW.cell' r3 id, d0, d1, d2, d3⟩ (h1.gr gW) (h2.gr gW))
  clear g0 b0 g1 b1 gW hm hn hl hi r0 r1 r2 r3 h1 h2
  go_enter Tryz.func48, Tryz.ntmps48
  go_wp2_with (go_at_call 65; refine HC.out.mono ?_; rintro e w1 ⟨rfl, g1⟩; have HG1 := hidM (HG.out.trans g1 (fun _ _ h => h)); clear g1)
  go_ret
  exact ⟨rfl, HG1.out⟩
end Go.Proofs.YteggcdhibcjneaaGreatDoor.Kit
