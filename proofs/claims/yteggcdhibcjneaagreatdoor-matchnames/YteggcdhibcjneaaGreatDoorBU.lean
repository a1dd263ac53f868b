import Derived.Test.YteggcdhibcjneaaGreatDoorBtA
import Derived.Test.YteggcdhibcjneaaGreatDoorBS
set_option maxRecDepth 100000
set_option maxHeartbeats 4000000
namespace Go.Proofs.YteggcdhibcjneaaGreatDoor.Bits
open Go.Proofs.YteggcdhibcjneaaGreatDoor.Kit
open Go.RowKit Go.Deep
/-- a row of one's own, in memory that was not there in w -/
def New (w w' : World) (t : Nat) (v : Value) (xs : List Value) : Prop :=
  w'.ownsRow 0 t 1 v xs.length xs ∧ (∀ g, v.ownBlock = some g → w.heap.size ≤ g) ∧ Keeps w w' (fun _ => False)
theorem New.ofRow {w w' : World} {G t n : Nat} {F : Nat → Value} {xs : List Value} (h : w'.rowIs G t n F) (hG : w.heap.size ≤ G) (k : Keeps w w' (fun _ => False)) (hn : n ≤ maxLen) (hx : xs.length = n) (hF : ∀ j, j < n → xs[j]? = some (F j)) :
    New w w' t (.slice (some ⟨G, 0, none⟩) n n) xs := by
  obtain ⟨c, hc, hs, hv⟩ := h
  refine ⟨⟨by simp, .inr ⟨G, n, c, by rw [hx], Nat.zero_le _, hc, by rw [hx]; exact Nat.le_refl _, hn, by rw [hs]; simp, ?_⟩⟩, fun g hg => by simp [Value.ownBlock] at hg; omega, k⟩
  apply List.ext_getElem?
  intro j
  by_cases hj : j < n
  · have := hF j hj
    simp only [Array.getElem?_toList, List.getElem?_take, hx, Nat.mul_one, hj, if_pos, hv j hj, this]
  · rw [List.getElem?_eq_none (by simp; omega), List.getElem?_eq_none (by omega)]

/-- a list of bools somewhere in memory -/
def BoolsAt (w : World) (ao : Option Addr) (n : Nat) (f : Nat → Bool) : Prop :=
  0 < n → ∃ b off, ao = some ⟨b, off, none⟩ ∧ ∀ k, k < n → w.cell? ⟨b, off + k, none⟩ = some (.bool (f k))
theorem BoolsAt.drewN {w : World} {ao : Option Addr} {n : Nat} {f : Nat → Bool} (h : BoolsAt w ao n f) (q : Nat) : BoolsAt (w.drewN q) ao n f := h
theorem BoolsAt.kept0 {w w' : World} {ao : Option Addr} {n : Nat} {f : Nat → Bool} (h : BoolsAt w ao n f) (k : Keeps w w' (fun _ => False)) : BoolsAt w' ao n f := by
  intro hn
  obtain ⟨b, off, rfl, hc⟩ := h hn
  exact ⟨b, off, rfl, fun j hj => k.cell' (hc j hj) id⟩

theorem info5 : (Tryz.prog.info? 5).map (fun i => (i.zero, i.size, i.bytes)) = some (some (.int .u8 0), 1, 1) := by kernel_rfl
theorem info4 : (Tryz.prog.info? 4).map (fun i => (i.zero, i.size, i.bytes)) = some (some (.bool false), 1, 1) := by kernel_rfl

theorem or8 (x k : Nat) (hx : x < 256) (hk : k < 8) : bits .or .u8 (x : Int) (2 ^ k % 256) = ((x ||| 2 ^ k : Nat) : Int) := by
  have hp : 2 ^ k < 2 ^ 8 := Nat.pow_lt_pow_right (by decide) hk
  have e : ((2 : Int) ^ k % 256) = ((2 ^ k : Nat) : Int) := by
    have : (2 ^ k : Nat) % 256 = 2 ^ k := Nat.mod_eq_of_lt hp
    rw [← this]; simp
  rw [e, bits_or8 x (2 ^ k) hx hp]

def Building (w wr : World) (G t n : Nat) (F : Nat → Value) : Prop := wr.rowIs G t n F ∧ w.heap.size ≤ G ∧ Keeps w wr (fun _ => False)
theorem Building.start (w : World) (z : Value) (t n : Nat) (F : Nat → Value) (hF : ∀ j, j < n → F j = z) : Building w (w.alloc (.cells (madeCells #[z] n) t)) w.heap.size t n F :=
  ⟨(World.rowIs_made w z n t).congr fun j hj => (hF j hj).symm, Nat.le_refl _, (Keeps.refl _ _).alloc _⟩
theorem Building.set {w wr : World} {G t n : Nat} {F F' : Nat → Value} (h : Building w wr G t n F) (i : Nat) (v : Value) (e : ∀ j, j < n → F' j = if j = i then v else F j) : Building w (wr.setCell ⟨G, i, none⟩ v) G t n F' :=
  ⟨(h.1.set i v).congr fun j hj => (e j hj).symm, h.2.1, h.2.2.setCell (p := ⟨G, i, none⟩) (fun hh => by have := h.2.1; simp at hh; omega) _⟩
theorem Building.congr {w wr : World} {G t n : Nat} {F F' : Nat → Value} (h : Building w wr G t n F) (e : ∀ j, j < n → F' j = F j) : Building w wr G t n F' := ⟨h.1.congr fun j hj => (e j hj).symm, h.2⟩
theorem Building.drew {w wr : World} {G t n : Nat} {F : Nat → Value} (h : Building w wr G t n F) : Building w wr.drew G t n F := ⟨h.1, h.2.1, h.2.2.drew⟩
theorem Building.drewN {w wr : World} {G t n : Nat} {F : Nat → Value} (h : Building w wr G t n F) (q : Nat) : Building w (wr.drewN q) G t n F := ⟨h.1, h.2.1, h.2.2.drewN q⟩

theorem make_any (ao : Option Addr) (n ca : Nat) (f : Nat → Bool) (hn : n ≤ 100000000) (w : World) (hb : BoolsAt w ao n f) :
    Calls Tryz.prog 292 #[.slice ao n ca] w fun e w' => ∃ v, e = .returned v ∧ New w w' 5 v ((mk f n).map fun x : Nat => .int .u8 x) := by
  have hnd : need n ≤ 100000000 := by unfold need; omega
  have hmk := run_make_row' (P := Tryz.prog) 43 5 (.int .u8 0) 1 Tryz.underlying43 info5 rfl .i64 .i64 (need n) (by omega) (by omega)
  go_enter Tryz.func292, Tryz.ntmps292
  go_wp2_with (go_at_call 137; refine (need_pos n (by omega) _).mono ?_; rintro e w' ⟨rfl, rfl⟩)
  have HB : Hid (Building w (w.alloc (.cells (madeCells #[.int .u8 0] (need n)) 5)) w.heap.size 5 (need n) fun j => .int .u8 (pb f 0 j : Nat)) := Building.start w _ 5 _ _ fun j _ => by simp [pb_zero]
  obtain ⟨G, hG⟩ : ∃ G, G = w.heap.size := ⟨_, rfl⟩
  rw [← hG] at HB ⊢
  clear hmk hG
  go_loopw [12] (fun i wr => ∃ k : Nat, k ≤ n ∧ i = .int .i64 k ∧ Hid (Building w wr G 5 (need n) fun j => .int .u8 (pb f k j : Nat))) (fun i _ => n - (intOf i).toNat)
  case atStart => exact ⟨0, by omega, rfl, HB⟩
  case round =>
    clear HB
    obtain ⟨k, hk, rfl, HB⟩ := hrel
    by_cases hlt : k < n
    · obtain ⟨b, off, rfl, hcs⟩ := hb (by omega)
      have hc : wr.cell? ⟨b, off + k, none⟩ = some (.bool (f k)) := HB.out.2.2.cell' (hcs k hlt) id
      have h8 : k / 8 < need n := by unfold need; omega
      have hx := HB.out.1.cell h8
      have hfz := HB.out.1.frozen (k / 8)
      cases hf : f k
      · rw [hf] at hc
        have HB' : Hid (Building w wr G 5 (need n) fun j => .int .u8 (pb f (k + 1) j : Nat)) := HB.out.congr fun j _ => by rw [pb_skip hf]
        clear HB hx hfz hcs hb
        go_wp2
        go_roundw
        case rel => exact ⟨k + 1, by omega, by go_num, HB'⟩
        case measure => simp [intOf]; omega
      · rw [hf] at hc
        have hxl := pb_lt f k (k / 8)
        have HX := pb_or hf
        obtain ⟨x, hx'⟩ : ∃ x, x = pb f k (k / 8) := ⟨_, rfl⟩
        rw [← hx'] at hx hxl HX
        have e := or8 x (k % 8) hxl (by omega)
        rw [HX] at e
        have HB' : Hid (Building w (wr.setCell ⟨G, k / 8, none⟩ (.int .u8 (bits .or .u8 (x : Int) (2 ^ (k % 8) % 256)))).drew G 5 (need n) fun j => .int .u8 (pb f (k + 1) j : Nat)) := by
          refine (HB.out.set (k / 8) _ fun j _ => ?_).drew
          by_cases hj : j = k / 8
          · rw [if_pos hj, e, hj]
          · rw [if_neg hj, pb_other hj]
        clear hcs hb hx' HB HX e
        go_wp2
        go_region
        go_wp2
        go_roundw
        case rel => exact ⟨k + 1, by omega, by go_num, HB'⟩
        case measure => simp [intOf]; omega
    · obtain rfl : k = n := by omega
      have HN : Hid (New w wr 5 (.slice (some ⟨G, 0, none⟩) (need k) (need k)) ((mk f k).map fun x : Nat => .int .u8 x)) :=
        New.ofRow HB.out.1 HB.out.2.1 HB.out.2.2 (by simp [maxLen]; omega) (by simp [mk]) (fun j hj => by simp [mk, hj])
      clear HB hb
      go_wp2
      go_ret
      exact ⟨_, rfl, HN.out⟩

def bools (f : Nat → Bool) (fr n : Nat) : List Value := (List.range n).map fun k => .bool (f (fr + k))
end Go.Proofs.YteggcdhibcjneaaGreatDoor.Bits
namespace Go.Proofs.YteggcdhibcjneaaGreatDoor.Kit
variable {nx : Bool}
open Go.RowKit Go.Shelf Go.Deep
open Go.Proofs.YteggcdhibcjneaaGreatDoor.Kd (Ans AnsV cell5 cell2)
open Go.Proofs.YteggcdhibcjneaaGreatDoor.Ink (InkAt InkDone newInk_any number_yes bytes_any leB leB_length OwnRow)
set_option linter.unusedVariables false
set_option linter.unusedSimpArgs false
attribute [local go_sem] run_store_func

/-! ### numbers as bytes -/
def leAll (xs : List Int) : List Int := xs.flatMap fun x => leB (IntKind.u64.wrap x) 1
theorem leAll_len (xs : List Int) : (leAll xs).length = xs.length := by
  induction xs with
  | nil => rfl
  | cons x xs ih => show (leB _ 1 ++ leAll xs).length = _; rw [List.length_append, leB_length, ih, List.length_cons]; omega
theorem leAll_snoc (xs : List Int) (x : Int) : leAll (xs ++ [x]) = leAll xs ++ leB (IntKind.u64.wrap x) 1 := by simp [leAll]
def iv (x : Int) : Value := .int .i64 x
theorem row_cell {W : World} {e n : Nat} {lo : Option Addr} {lc : Nat} {ys : List Value} (h : W.ownsRow 0 e 1 (.slice lo n lc) n ys) {k : Nat} (hk : k < n) : ∃ g, lo = some ⟨g, 0, none⟩ ∧ W.cell? ⟨g, k, none⟩ = ys[k]? := by
  rcases h.2 with ⟨h1, h2⟩ | ⟨g, cap, cur, h1, _, hg, hn, _, hs, ht⟩
  · omega
  · cases h1
    refine ⟨g, rfl, ?_⟩
    rw [← ht]
    simp [World.cell?, hg, hk]
theorem row_len {W : World} {e n : Nat} {v : Value} {ys : List Value} (h : W.ownsRow 0 e 1 v n ys) : ys.length = n := by
  rcases h.2 with ⟨h1, h2⟩ | ⟨g, cap, cur, h1, _, hg, hn, _, hs, ht⟩
  · have := h.1; omega
  · have := congrArg List.length ht; simp at this; omega
/-- the ink behind k numbers -/
def NkI (W wr : World) (xs : List Int) (k : Nat) : Prop := ∃ go, InkAt wr 416 W.heap.size go 65536 (leAll (xs.take k)) ∧ Gr W wr ∧ ∀ g, go = some g → W.heap.size ≤ g
theorem numbered263 (lo : Option Addr) (lc : Nat) (xs : List Int) (W : World) (ho : W.ownsRow 0 2 1 (.slice lo xs.length lc) xs.length (xs.map iv)) (hL : xs.length ≤ 4096) :
    Calls Tryz.prog 376 #[.slice lo xs.length lc, .int .i64 1] W fun e w' => ∃ g, e = .returned (.slice (some ⟨g, 0, none⟩) (xs.length) (xs.length)) ∧ Gr W w' ∧ W.heap.size ≤ g ∧ OwnRow w' g 5 ((leAll xs).map (Value.int .u8)) := by
  obtain ⟨n, hn⟩ : ∃ n, n = xs.length := ⟨_, rfl⟩
  rw [← hn] at ho hL ⊢
  have HO := hidM ho
  have Hn := hidM hn
  have hcl : Ink.clamp 65536 = 65536 := by decide
  have HI : Hid (NkI W (W.alloc (.cells #[.slice none 0 0, .int .i64 65536] 416)) xs 0) := ⟨none, Ink.InkAt.new W 416 65536, gr_alloc W _, fun g e => by cases e⟩
  clear ho hn
  go_enter Tryz.func376, Tryz.ntmps376
  go_wp2_with (go_at_call 301; refine (newInk_any 65536 _).mono ?_; rintro e w1 ⟨rfl, rfl⟩; rw [hcl])
  go_loopw [11] (fun i wr => ∃ k : Nat, k ≤ n ∧ i = .int .i64 k ∧ Hid (NkI W wr xs k)) (fun i _ => n - (intOf i).toNat)
  case atStart => exact ⟨0, by omega, rfl, HI⟩
  case round =>
    clear HI
    obtain ⟨k, hk, rfl, HI⟩ := hrel
    by_cases hlt : k < n
    · obtain ⟨g, rfl, hc⟩ := row_cell HO.out hlt
      have hxk : k < xs.length := by have := Hn.out; omega
      obtain ⟨y, hy⟩ : ∃ y, xs[k]? = some y := ⟨_, List.getElem?_eq_getElem hxk⟩
      have hc' : wr.cell? ⟨g, k, none⟩ = some (.int .i64 y) := by
        obtain ⟨go, _, hgr, _⟩ := HI.out
        rw [List.getElem?_map, hy] at hc
        exact hgr.cell' hc id
      have HN : Hid (Calls Tryz.prog 302 #[.pointer (some ⟨W.heap.size, 0, none⟩), .int .u64 (IntKind.u64.wrap y), .int .i64 1] wr fun e w' => e = .returned (.int .i64 0) ∧ NkI W w' xs (k + 1)) := by
        obtain ⟨go, hI, hgr, hgo⟩ := HI.out
        have hlen := leAll_len (xs.take k)
        rw [List.length_take] at hlen
        refine (number_yes W.heap.size go 65536 (leAll (xs.take k)) (IntKind.u64.wrap y) 1 wr hI (by decide) (by decide) (by have := Hn.out; omega) (by decide) (by decide)).mono ?_
        rintro e w' ⟨rfl, go', hI', hk', hb⟩
        refine ⟨rfl, go', ?_, hgr.trans hk' (fun j hj e => ?_), fun q e => ?_⟩
        · rw [List.take_add_one, hy]
          show InkAt w' 416 W.heap.size go' 65536 (leAll (xs.take k ++ [y]))
          rw [leAll_snoc]
          exact hI'
        · rcases e with e | e
          · have e' : j = W.heap.size := e; omega
          · have := hgo j e; omega
        · rcases hb with e2 | e2
          · exact hgo q (e2 ▸ e)
          · exact Nat.le_trans hgr.size (e2 q e)
      clear hc hy hxk HI
      go_wp2_with (go_at_call 302; refine HN.out.mono ?_; rintro e w2 ⟨rfl, hq⟩; have HQ := hidM hq; clear hq)
      go_roundw
      case rel => exact ⟨k + 1, by omega, by go_num, HQ⟩
      case measure => simp [intOf]; omega
    · obtain rfl : k = n := by omega
      have HB : Hid (Calls Tryz.prog 303 #[.pointer (some ⟨W.heap.size, 0, none⟩)] wr fun e w' => ∃ g, e = .returned (.slice (some ⟨g, 0, none⟩) (k) (k)) ∧ Gr W w' ∧ W.heap.size ≤ g ∧ OwnRow w' g 5 ((leAll xs).map (Value.int .u8))) := by
        obtain ⟨go, hI, hgr, hgo⟩ := HI.out
        have hkn := Hn.out
        rw [hkn, List.take_length] at hI
        have hlen := leAll_len xs
        refine (bytes_any W.heap.size go 65536 (leAll xs) wr hI (by omega)).mono ?_
        rintro e w' ⟨rfl, hr, hb⟩
        refine ⟨wr.heap.size, by rw [hlen, hkn], hgr.trans (Keeps.ofBelow hb) (fun j hj e => ?_), hgr.size, hr⟩
        have := hgr.size
        omega
      clear HI HO
      go_wp2_with (go_at_call 303; refine HB.out.mono ?_; rintro e w2 ⟨g, rfl, hq⟩; have HQ := hidM hq; clear hq)
      go_ret
      exact ⟨g, rfl, HQ.out⟩
end Go.Proofs.YteggcdhibcjneaaGreatDoor.Kit
namespace Go.Proofs.YteggcdhibcjneaaGreatDoor.Kit
variable {nx : Bool}
open Go.RowKit Go.Shelf Go.Deep
open Go.Proofs.YteggcdhibcjneaaGreatDoor.Kd (Ans AnsV cell5 cell2)
open Go.Proofs.YteggcdhibcjneaaGreatDoor.Ink (OwnRow)
set_option linter.unusedVariables false
set_option linter.unusedSimpArgs false
attribute [local go_sem] run_store_func

/-! ### masked 171 -/
def offs (l : List Bool) : Nat := (l.filter (! ·)).length
theorem offs_snoc (l : List Bool) (b : Bool) : offs (l ++ [b]) = offs l + (if b = true then 0 else 1) := by
  unfold offs
  cases b <;> simp
theorem offs_le (l : List Bool) : offs l ≤ l.length := List.length_filter_le _ _
def dC (L nulls : Int) (bv : Value) : Array Value := #[.int .i64 L, .int .i64 0, .int .i64 nulls, bv, .slice none 0 0, .slice none 0 0]
/-- how far the nulls are counted -/
def MkI (A wr : World) (d n : Nat) (bs : List Bool) (k : Nat) : Prop := wr.heap[d]? = some (.cells (dC n (offs (bs.take k)) (.slice none 0 0)) 50) ∧ Keeps A wr (fun z => z = d)
theorem info38 : (Tryz.prog.info? 43).map (fun i => (i.zero, i.size, i.bytes)) = some (some (.slice none 0 0), 1, 24) := by kernel_rfl
/-- what the bits of a list are laid as -/
def MaskQ (W w' : World) (bs : List Bool) (v : Value) : Prop := if offs bs = 0 then v = .slice none 0 0 else Bits.New W w' 5 v ((Bits.mk (fun j => bs.getD j false) bs.length).map fun x : Nat => .int .u8 x)
/-- the world behind the last steps of masked -/
def mkU (w4 : World) (r n N : Nat) (bv : Value) : World := setAll w4 r [(0, .int .i64 n), (1, .int .i64 0), (2, .int .i64 N), (3, bv), (4, .slice none 0 0), (5, .slice none 0 0)]
structure MTail (W A w1 : World) (n N q : Nat) (val nb : Value) : Prop where
  own : (w1.alloc (.cells #[val] 43)).ownsRow 0 43 1 (.slice (some ⟨w1.heap.size, 0, none⟩) 1 1) 1 [val]
  src : Src Tryz.prog 1 48 (.slice (some ⟨q, 0, none⟩) 1 1) 1 [nb] (w1.alloc (.cells #[val] 43))
  nxt : ∀ w3 uo uc, w3.ownsRow 0 43 1 (.slice uo 2 uc) 2 [val, nb] → (w1.alloc (.cells #[val] 43)).grownBy w3 (Value.slice (some ⟨w1.heap.size, 0, none⟩) 1 1).ownBlock → ((Value.slice uo 2 uc).ownBlock = (Value.slice (some ⟨w1.heap.size, 0, none⟩) 1 1).ownBlock ∨ ∀ g, (Value.slice uo 2 uc).ownBlock = some g → (w1.alloc (.cells #[val] 43)).heap.size ≤ g) →
    w3.heap[W.heap.size + 1]? = some (.cells (dC n N (.slice none 0 0)) 50) ∧ (w3.setCell ⟨W.heap.size + 1, 3, none⟩ (.slice uo 2 uc)).heap[W.heap.size + 1]? = some (.cells (dC n N (.slice uo 2 uc)) 50) ∧ (w3.setCell ⟨W.heap.size + 1, 3, none⟩ (.slice uo 2 uc)).heap[W.heap.size]? = some (.cells (dC 0 0 (.slice none 0 0)) 50) ∧
    (mkU (w3.setCell ⟨W.heap.size + 1, 3, none⟩ (.slice uo 2 uc)) W.heap.size n N (.slice uo 2 uc)).heap[W.heap.size]? = some (.cells (dC n N (.slice uo 2 uc)) 50) ∧
    Keeps w1 (mkU (w3.setCell ⟨W.heap.size + 1, 3, none⟩ (.slice uo 2 uc)) W.heap.size n N (.slice uo 2 uc)) (fun z => z = W.heap.size ∨ z = W.heap.size + 1) ∧
    (mkU (w3.setCell ⟨W.heap.size + 1, 3, none⟩ (.slice uo 2 uc)) W.heap.size n N (.slice uo 2 uc)).ownsRow 0 43 1 (.slice uo 2 uc) 2 [val, nb] ∧ ∀ g, (Value.slice uo 2 uc).ownBlock = some g → W.heap.size ≤ g
theorem mask_tail {W A w1 : World} {n N q : Nat} {val nb : Value} (gA : Gr W A) (hsz : A.heap.size = W.heap.size + 2) (hr0 : A.heap[W.heap.size]? = some (.cells (dC 0 0 (.slice none 0 0)) 50)) (hk : Keeps A w1 (fun z => z = W.heap.size + 1)) (hd : w1.heap[W.heap.size + 1]? = some (.cells (dC n N (.slice none 0 0)) 50)) (hq : W.heap[q]? = some (.cells #[nb] 43)) (hnb : nb.oneCell' = true) : MTail W A w1 n N q val nb := by
  have hs1 := hk.size
  have hr1 := (hk.block W.heap.size (by omega) (by omega)).trans hr0
  have hq1 : w1.heap[q]? = some (.cells #[nb] 43) := by
    have hl := lt_of_heap hq
    exact (hk.block q (by omega) (by omega)).trans ((gA.block q hl id).trans hq)
  have g2 := gr_alloc w1 (.cells #[val] 43)
  refine ⟨⟨rfl, .inr ⟨w1.heap.size, 1, #[val], rfl, Nat.zero_le _, heap_alloc_new w1 _, Nat.le_refl _, by decide, rfl, rfl⟩⟩, ?_, ?_⟩
  · refine Src.ofSlice (w := w1.alloc (.cells #[val] 43)) Tryz.underlying48 ⟨q, 0, none⟩ 1 1 [nb] rfl (fun j v hj => ?_) (fun v hv => by simp at hv; subst hv; exact hnb)
    cases j with
    | zero =>
      cases hj
      have hh := (g2.block q (lt_of_heap hq1) id).trans hq1
      show (w1.alloc (.cells #[val] 43)).cell? ⟨q, 0, none⟩ = some nb
      unfold World.cell?
      rw [hh]
      rfl
    | succ j => simp at hj
  · intro w3 uo uc ha1 ha2 ha3
    have hk3 : Keeps w1 w3 (fun _ => False) := g2.trans (Keeps.ofGrown ha2) (fun j hj e => by simp [Value.ownBlock] at e; omega)
    have hd3 := (hk3.block _ (lt_of_heap hd) id).trans hd
    have hr3 := (hk3.block _ (lt_of_heap hr1) id).trans hr1
    have hk4 : Keeps w3 (w3.setCell ⟨W.heap.size + 1, 3, none⟩ (.slice uo 2 uc)) (fun z => z = W.heap.size ∨ z = W.heap.size + 1) := Keeps.setCell (p := ⟨W.heap.size + 1, 3, none⟩) (Keeps.refl w3 _) (fun _ => .inr rfl) _
    have hd4 : (w3.setCell ⟨W.heap.size + 1, 3, none⟩ (.slice uo 2 uc)).heap[W.heap.size + 1]? = some (.cells (dC n N (.slice uo 2 uc)) 50) := by rw [heap_setCell_same w3 _ 3 _ _ _ hd3]; rfl
    have hr4 : (w3.setCell ⟨W.heap.size + 1, 3, none⟩ (.slice uo 2 uc)).heap[W.heap.size]? = some (.cells (dC 0 0 (.slice none 0 0)) 50) := (heap_setCell_other _ _ _ _ (show W.heap.size ≠ W.heap.size + 1 by omega)).trans hr3
    have hkU : Keeps (w3.setCell ⟨W.heap.size + 1, 3, none⟩ (.slice uo 2 uc)) (mkU (w3.setCell ⟨W.heap.size + 1, 3, none⟩ (.slice uo 2 uc)) W.heap.size n N (.slice uo 2 uc)) (fun z => z = W.heap.size ∨ z = W.heap.size + 1) := (setAll_kp _ _ _).mono (fun _ _ e => .inl e)
    have hk3U := Keeps.trans hk4 hkU (fun _ _ e => e)
    refine ⟨hd3, hd4, hr4, ?_, Keeps.trans (hk3.mono (fun _ _ e => e.elim)) hk3U (fun _ _ e => e), row_kp ha1 fun g e => hk3U.block g (own_lt ha1 g e) (fun e2 => ?_), fun g e => ?_⟩
    · rw [show mkU (w3.setCell ⟨W.heap.size + 1, 3, none⟩ (.slice uo 2 uc)) W.heap.size n N (.slice uo 2 uc) = setAll (w3.setCell ⟨W.heap.size + 1, 3, none⟩ (.slice uo 2 uc)) W.heap.size _ from rfl, setAll_blk W.heap.size 50 _ _ _ hr4]
      simp [setsA, dC]
    · rcases e2 with rfl | rfl
      · exact own_ne hr3 ha1 (by decide) e
      · exact own_ne hd3 ha1 (by decide) e
    · rcases ha3 with e2 | e2
      · rw [e2] at e
        simp [Value.ownBlock] at e
        omega
      · have := e2 g e
        have := g2.size
        omega
theorem results_cell31 {fn : Func} {t : Tmp} {tmps : Array Value} {g : Nat} {cs : Array Value} {w : World} (h : fn.results = #[.cell t 50]) (ht : tmps.getD t undef = .pointer (some ⟨g, 0, none⟩)) (hg : w.heap[g]? = some (.cells cs 50 (0, 0))) (hi : (Tryz.prog.info? 50).map (·.size) = some cs.size) :
    (results fn tmps).run Tryz.prog w = .ok (.agg cs) w := by
  have hl := run_loadVar_row (P := Tryz.prog) w g 50 50 cs (0, 0) _ hg Tryz.underlying50 rfl hi
  unfold results
  rw [h]
  simp only [Array.mapM_eq_mapM_toList, List.mapM_cons, List.mapM_nil, ht]
  simp [asAddr, hl]
theorem new_form {w w' : World} {t : Nat} {v : Value} {xs : List Value} (h : Bits.New w w' t v xs) : ∃ o l c, v = .slice o l c := by
  obtain ⟨o, c, e⟩ := own_formN h.1
  exact ⟨o, _, c, e⟩
theorem masked171 (vo : Option Addr) (vc : Nat) (bs : List Bool) (q : Nat) (nb : Value) (W : World) (hv : W.ownsRow 0 4 1 (.slice vo bs.length vc) bs.length (bs.map Value.bool)) (hL : bs.length ≤ 4096) (hq : W.heap[q]? = some (.cells #[nb] 43)) (hnb : nb.oneCell' = true) :
    Calls Tryz.prog 291 #[.slice vo bs.length vc, .slice (some ⟨q, 0, none⟩) 1 1] W fun e w' => ∃ bo bc val, e = .returned (.agg (dC bs.length (offs bs) (.slice bo 2 bc))) ∧ Gr W w' ∧ MaskQ W w' bs val ∧ w'.ownsRow 0 43 1 (.slice bo 2 bc) 2 [val, nb] ∧ ∀ g, (Value.slice bo 2 bc).ownBlock = some g → W.heap.size ≤ g := by
  obtain ⟨n, hn⟩ : ∃ n, n = bs.length := ⟨_, rfl⟩
  rw [← hn] at hv hL ⊢
  have HV := hidM hv
  have Hn := hidM hn
  have HQ := hidM hq
  obtain ⟨A, hA⟩ : ∃ A, (W.alloc (.cells (dC 0 0 (.slice none 0 0)) 50)).alloc (.cells (dC n 0 (.slice none 0 0)) 50) = A := ⟨_, rfl⟩
  have gA : Gr W A := by rw [← hA]; exact (gr_alloc W _).trans (gr_alloc _ _) (fun _ _ h => h)
  have hd0 : A.heap[W.heap.size + 1]? = some (.cells (dC n 0 (.slice none 0 0)) 50) := by
    have e2 := heap_alloc_new (W.alloc (.cells (dC 0 0 (.slice none 0 0)) 50)) (.cells (dC n 0 (.slice none 0 0)) 50)
    rw [show (W.alloc (.cells (dC 0 0 (.slice none 0 0)) 50)).heap.size = W.heap.size + 1 by simp, hA] at e2
    exact e2
  have hr0 : A.heap[W.heap.size]? = some (.cells (dC 0 0 (.slice none 0 0)) 50) := by
    have e1 := heap_alloc_new W (.cells (dC 0 0 (.slice none 0 0)) 50)
    rw [← hA]
    exact ((gr_alloc _ _).block _ (lt_of_heap e1) id).trans e1
  have hsz : A.heap.size = W.heap.size + 2 := by rw [← hA]; simp
  have HSZ := hidM hsz
  have HR0 := hidM hr0
  have HGA := hidM gA
  have HI0 : Hid (MkI A A (W.heap.size + 1) n bs 0) := ⟨hd0, Keeps.refl A _⟩
  have HVA : Hid (∀ wr, Keeps A wr (fun z => z = W.heap.size + 1) → wr.ownsRow 0 4 1 (.slice vo n vc) n (bs.map Value.bool)) := fun wr hk => row_kp hv fun g e => by
    have hlt := own_lt hv g e
    exact (hk.block g (by omega) (by omega)).trans (gA.block g hlt id)
  clear hv hn hq gA hd0 hr0 hsz
  unfold dC at hA
  have HA := hidM hA
  clear hA
  go_enter Tryz.func291, Tryz.ntmps291
  go_wp2_with fail
  rw [HA.out]
  go_loopw [14] (fun i wr => ∃ k : Nat, k ≤ n ∧ i = .int .i64 k ∧ Hid (MkI A wr (W.heap.size + 1) n bs k)) (fun i _ => n - (intOf i).toNat)
  case atStart => exact ⟨0, by omega, rfl, HI0⟩
  case round =>
    clear HI0
    obtain ⟨k, hk, rfl, HI⟩ := hrel
    by_cases hlt : k < n
    · obtain ⟨g, rfl, hc⟩ := row_cell (HVA.out wr HI.out.2) hlt
      have hxk : k < bs.length := by have := Hn.out; omega
      obtain ⟨y, hy⟩ : ∃ y, bs[k]? = some y := ⟨_, List.getElem?_eq_getElem hxk⟩
      rw [List.getElem?_map, hy] at hc
      have hc' : wr.cell? ⟨g, k, none⟩ = some (.bool y) := hc
      have hofk : offs (bs.take (k + 1)) = offs (bs.take k) + (if y = true then 0 else 1) := by
        rw [List.take_add_one, hy]
        exact offs_snoc _ _
      have hole : offs (bs.take k) ≤ 4096 := by
        have h1 := offs_le (bs.take k)
        rw [List.length_take] at h1
        omega
      obtain ⟨N, hN⟩ : ∃ N, offs (bs.take k) = N := ⟨_, rfl⟩
      have hd : wr.heap[W.heap.size + 1]? = some (.cells #[.int .i64 n, .int .i64 0, .int .i64 N, .slice none 0 0, .slice none 0 0, .slice none 0 0] 50) := by rw [← hN]; exact HI.out.1
      obtain ⟨d0, d1, d2, d3, d4, d5⟩ := cell6 hd
      have z2 := frz hd 2
      have hwr : IntKind.i64.wrap (N + 1 : Int) = ((N + 1 : Nat) : Int) := by rw [IntKind.wrap_i64]; omega
      have HI2 : Hid (y = false → MkI A (wr.setCell ⟨W.heap.size + 1, 2, none⟩ (.int .i64 ((N + 1 : Nat) : Int))) (W.heap.size + 1) n bs (k + 1)) := fun hy0 => by
        refine ⟨?_, Keeps.setCell HI.out.2 (fun _ => rfl) _⟩
        rw [heap_setCell_same wr _ 2 _ _ _ hd, hofk, hN, hy0]
        rfl
      have HI1 : Hid (y = true → MkI A wr (W.heap.size + 1) n bs (k + 1)) := fun hy1 => by
        refine ⟨?_, HI.out.2⟩
        rw [hofk, if_pos hy1, Nat.add_zero]
        exact HI.out.1
      clear hc hy hxk hofk hole hN HI hd
      cases y with
      | true =>
        have HQ : Hid (MkI A wr (W.heap.size + 1) n bs (k + 1)) := HI1.out rfl
        clear HI1 HI2
        go_wp2_with fail
        go_roundw
        case rel => exact ⟨k + 1, by omega, by go_num, HQ⟩
        case measure => simp [intOf]; omega
      | false =>
        have HQ : Hid (MkI A (wr.setCell ⟨W.heap.size + 1, 2, none⟩ (.int .i64 ((N + 1 : Nat) : Int))) (W.heap.size + 1) n bs (k + 1)) := HI2.out rfl
        clear HI1 HI2
        go_wp2_with fail
        go_roundw
        case rel => exact ⟨k + 1, by omega, by go_num, HQ⟩
        case measure => simp [intOf]; omega
    · obtain rfl : k = n := by omega
      have hod : offs (bs.take k) = offs bs := by rw [Hn.out, List.take_length]
      have hole : offs bs ≤ 4096 := by have h1 := offs_le bs; have h2 := Hn.out; omega
      obtain ⟨N, hN⟩ : ∃ N, offs bs = N := ⟨_, rfl⟩
      have hd : wr.heap[W.heap.size + 1]? = some (.cells (dC k N (.slice none 0 0)) 50) := by rw [← hN, ← hod]; exact HI.out.1
      have hkr := HI.out.2
      have HD := hidM hd
      have HK := hidM hkr
      have HNN := hidM hN
      obtain ⟨d0, d1, d2, d3, d4, d5⟩ := cell6 hd
      clear hod hd hkr HI
      by_cases hz : N = 0
      · have hz' : ¬ ((0 : Int) < (N : Int)) := by omega
        have HZ := hidM hz
        clear hz
        have HM := hidM (mask_tail (val := .slice none 0 0) HGA.out HSZ.out HR0.out HK.out HD.out HQ.out hnb)
        go_wp2_with (at_builtin; refine Hid.out ?_)
        unfold Hid
        refine wpList_append_any _ rfl (.tmp 31) (.tmp 32) 48 48 rfl 43 (.slice none 0 0) 24 Tryz.underlying48 info38 rfl (.slice (some ⟨wr.heap.size, 0, none⟩) 1 1) 1 [.slice none 0 0] rfl HM.out.own (.slice (some ⟨q, 0, none⟩) 1 1) 1 [nb] rfl HM.out.src (by omega) (by omega) ?_
        intro v' w3 ha1 ha2 ha3
        obtain ⟨uo, uc, rfl⟩ := own_formN ha1
        obtain ⟨k1, k2, k3, k4, k5, k6, k7⟩ := HM.out.nxt w3 uo uc ha1 ha2 ha3
        have HE := hidM (And.intro k5 (And.intro k6 k7))
        clear d0 d1 d2 d3 d4 d5 ha1 ha2 ha3 k5 k6 k7
        obtain ⟨w4, hw4⟩ : ∃ w4, w3.setCell ⟨W.heap.size + 1, 3, none⟩ (.slice uo 2 uc) = w4 := ⟨_, rfl⟩
        rw [hw4] at k2 k3 k4 HE
        obtain ⟨U, hU⟩ : ∃ U, mkU w4 W.heap.size k N (.slice uo 2 uc) = U := ⟨_, rfl⟩
        rw [hU] at k4 HE
        simp only [mkU, setAll] at hU
        obtain ⟨d0, d1, d2, d3, d4, d5⟩ := cell6 k1
        have z3 := frz k1 3
        obtain ⟨f0, f1, f2, f3, f4, f5⟩ := cell6 k2
        obtain ⟨g0, g1, g2, g3, g4, g5⟩ := cell6 k3
        have y0 := frz k3 0
        have y1 := frz k3 1
        have y2 := frz k3 2
        have y3 := frz k3 3
        have y4 := frz k3 4
        have y5 := frz k3 5
        obtain ⟨h0, h1, h2, h3, h4, h5⟩ := cell6 k4
        clear k1 k2 k3 HM
        have HK4 := hidM k4
        clear k4
        go_wp2_with fail
        (try simp only [Exit.inBlock, Exit.then])
        refine bodyPost_ret (results_cell31 rfl rfl (by with_reducible exact HK4.out) (by kernel_rfl)) rfl ?_
        obtain ⟨k5, k6, k7⟩ := HE.out
        refine ⟨uo, uc, .slice none 0 0, by rw [HNN.out], ?_, ?_, k6, k7⟩
        · refine (HGA.out.trans HK.out (fun j hj e => ?_)).trans k5 (fun j hj e => ?_)
          · have e' : j = W.heap.size + 1 := e; omega
          · rcases e with e | e <;> omega
        · unfold MaskQ; rw [if_pos (HNN.out.trans HZ.out)]
      · have hz' : ((0 : Int) < (N : Int)) := by omega
        have HB : Hid (Bits.BoolsAt wr vo k (fun j => bs.getD j false)) := fun hpos => by
          obtain ⟨g, rfl, -⟩ := row_cell (HVA.out wr HK.out) hpos
          refine ⟨g, 0, rfl, fun j hj => ?_⟩
          obtain ⟨g', e, hc⟩ := row_cell (HVA.out wr HK.out) hj
          cases e
          have hxk : j < bs.length := by have := Hn.out; omega
          rw [List.getElem?_map, List.getElem?_eq_getElem hxk] at hc
          rw [Nat.zero_add, hc]
          show _ = some (Value.bool (bs.getD j false))
          rw [List.getD_eq_getElem?_getD, List.getElem?_eq_getElem hxk]
          rfl
        go_wp2_with (first
          | (go_at_call 292; refine (Bits.make_any vo k vc _ (by omega) _ HB.out).mono ?_; rintro e w1 ⟨val, rfl, hnew⟩; obtain ⟨va, vl, vcc, rfl⟩ := new_form hnew; have HNW := hidM hnew; clear d0 d1 d2 d3 d4 d5; obtain ⟨d0, d1, d2, d3, d4, d5⟩ := cell6 ((hnew.2.2.block _ (lt_of_heap HD.out) id).trans HD.out); clear hnew)
          | (at_builtin; refine Hid.out ?_))
        have HM := hidM (mask_tail (val := .slice va vl vcc) HGA.out HSZ.out HR0.out (HK.out.trans HNW.out.2.2 (fun _ _ e => e.elim)) ((HNW.out.2.2.block _ (lt_of_heap HD.out) id).trans HD.out) HQ.out hnb)
        unfold Hid
        refine wpList_append_any _ rfl (.tmp 31) (.tmp 32) 48 48 rfl 43 (.slice none 0 0) 24 Tryz.underlying48 info38 rfl (.slice (some ⟨w1.heap.size, 0, none⟩) 1 1) 1 [.slice va vl vcc] rfl HM.out.own (.slice (some ⟨q, 0, none⟩) 1 1) 1 [nb] rfl HM.out.src (by omega) (by omega) ?_
        intro v' w3 ha1 ha2 ha3
        obtain ⟨uo, uc, rfl⟩ := own_formN ha1
        obtain ⟨k1, k2, k3, k4, k5, k6, k7⟩ := HM.out.nxt w3 uo uc ha1 ha2 ha3
        have HE := hidM (And.intro k5 (And.intro k6 k7))
        clear d0 d1 d2 d3 d4 d5 ha1 ha2 ha3 k5 k6 k7
        obtain ⟨w4, hw4⟩ : ∃ w4, w3.setCell ⟨W.heap.size + 1, 3, none⟩ (.slice uo 2 uc) = w4 := ⟨_, rfl⟩
        rw [hw4] at k2 k3 k4 HE
        obtain ⟨U, hU⟩ : ∃ U, mkU w4 W.heap.size k N (.slice uo 2 uc) = U := ⟨_, rfl⟩
        rw [hU] at k4 HE
        simp only [mkU, setAll] at hU
        obtain ⟨d0, d1, d2, d3, d4, d5⟩ := cell6 k1
        have z3 := frz k1 3
        obtain ⟨f0, f1, f2, f3, f4, f5⟩ := cell6 k2
        obtain ⟨g0, g1, g2, g3, g4, g5⟩ := cell6 k3
        have y0 := frz k3 0
        have y1 := frz k3 1
        have y2 := frz k3 2
        have y3 := frz k3 3
        have y4 := frz k3 4
        have y5 := frz k3 5
        obtain ⟨h0, h1, h2, h3, h4, h5⟩ := cell6 k4
        clear k1 k2 k3 HM
        have HK4 := hidM k4
        clear k4
        go_wp2_with fail
        (try simp only [Exit.inBlock, Exit.then])
        refine bodyPost_ret (results_cell31 rfl rfl (by with_reducible exact HK4.out) (by kernel_rfl)) rfl ?_
        obtain ⟨k5, k6, k7⟩ := HE.out
        have hk1 := HK.out.trans HNW.out.2.2 (fun _ _ e => e.elim)
        have hgU : Gr W U := (HGA.out.trans hk1 (fun j hj e => by have e' : j = W.heap.size + 1 := e; omega)).trans k5 (fun j hj e => by rcases e with e | e <;> omega)
        refine ⟨uo, uc, .slice va vl vcc, by rw [HNN.out], hgU, ?_, k6, k7⟩
        unfold MaskQ
        rw [if_neg (by rw [HNN.out]; exact hz), ← Hn.out]
        have hsA := HSZ.out
        have hsK := HK.out.size
        have hsN := HNW.out.2.2.size
        refine ⟨row_kp HNW.out.1 fun g e => k5.block g (own_lt HNW.out.1 g e) (fun e2 => ?_), fun g e => ?_, hgU⟩
        · have := HNW.out.2.1 g e
          rcases e2 with e2 | e2 <;> omega
        · have := HNW.out.2.1 g e
          omega
end Go.Proofs.YteggcdhibcjneaaGreatDoor.Kit
