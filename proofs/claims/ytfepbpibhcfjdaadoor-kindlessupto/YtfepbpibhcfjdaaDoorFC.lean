import Derived.Test.YtfepbpibhcfjdaaDoorFB
import Derived.Deep.RegionHeld3
namespace Go.Proofs.YtfepbpibhcfjdaaDoor.Kit
open Go.RowKit Go.Shelf Go.Deep
set_option linter.unusedVariables false
attribute [local go_sem] run_store_func

def wordK : Nat → List UInt8
  | 1 => [110, 117, 108, 108] | 2 => [98, 111, 111, 108] | 3 => [105, 110, 116, 56] | 4 => [105, 110, 116, 49, 54] | 5 => [105, 110, 116, 51, 50] | 6 => [105, 110, 116, 54, 52]
  | 7 => [117, 105, 110, 116, 56] | 8 => [117, 105, 110, 116, 49, 54] | 9 => [117, 105, 110, 116, 51, 50] | 10 => [117, 105, 110, 116, 54, 52] | 11 => [102, 108, 111, 97, 116, 54, 52]
  | 12 => [116, 101, 120, 116] | 13 => [98, 121, 116, 101, 115] | 14 => [102, 105, 120, 101, 100] | 15 => [108, 105, 115, 116] | 16 => [115, 112, 97, 110] | 17 => [115, 116, 114, 117, 99, 116]
  | 18 => [99, 104, 111, 105, 99, 101] | 19 => [100, 105, 99, 116] | 20 => [114, 117, 110, 115] | _ => []
def bytesK : Nat → Int
  | 3 => 1 | 4 => 2 | 5 => 4 | 6 => 8 | 7 => 1 | 8 => 2 | 9 => 4 | 10 => 8 | 11 => 8 | _ => 0
def bufsK : Nat → Int
  | 0 => 0 | 1 => 0 | 12 => 3 | 13 => 3 | 16 => 1 | 17 => 1 | 20 => 0 | _ => 2
def leastK : Nat → Int
  | 15 => 1 | 16 => 1 | 18 => 1 | 19 => 1 | 20 => 1 | _ => 0
def mostK : Nat → Int
  | 15 => 1 | 16 => 1 | 17 => 32 | 18 => 32 | 19 => 1 | 20 => 1 | _ => 0
structure KRow (W : World) (k : Nat) : Prop where
  c0 : W.cell? ⟨0, k * 5, none⟩ = some (.string ⟨(wordK k).toArray⟩)
  c1 : W.cell? ⟨0, k * 5 + 1, none⟩ = some (.int .i64 (bytesK k))
  c2 : W.cell? ⟨0, k * 5 + 2, none⟩ = some (.int .i64 (bufsK k))
  c3 : W.cell? ⟨0, k * 5 + 3, none⟩ = some (.int .i64 (leastK k))
  c4 : W.cell? ⟨0, k * 5 + 4, none⟩ = some (.int .i64 (mostK k))
def Tab (W : World) : Prop := 0 < W.heap.size ∧ ∀ k, k < 21 → KRow W k
theorem Tab.kp {W W' : World} (h : Tab W) (e : W'.heap[0]? = W.heap[0]?) : Tab W' := by
  refine ⟨?_, fun k hk => ?_⟩
  · rw [Array.getElem?_eq_getElem h.1] at e
    exact (Array.getElem?_eq_some_iff.1 e).1
  · have k' : ∀ j, W'.cell? ⟨0, j, none⟩ = W.cell? ⟨0, j, none⟩ := fun j => World.cell?_of_block (w := W) e
    have := h.2 k hk
    exact ⟨(k' _).trans this.c0, (k' _).trans this.c1, (k' _).trans this.c2, (k' _).trans this.c3, (k' _).trans this.c4⟩
theorem Tab.gr {W W' : World} (h : Tab W) (g : Gr W W') : Tab W' := h.kp (g.block 0 h.1 id)
def tableB (f : FT) : Bool := kindB f.kind && (decide (leastK f.kind.toNat ≤ (f.kids.length : Int)) && decide ((f.kids.length : Int) ≤ mostK f.kind.toNat) && widthB f && dictB f)

set_option maxRecDepth 100000 in
set_option maxHeartbeats 1000000 in
theorem fitsTable_any (f : FT) (ao : Option Addr) (ca : Nat) (w : World) (hT : Tab w) (hl : f.kids.length ≤ big) : Calls Tryd.prog 74 #[typV f ao ca] w fun e w' => e = .returned (.bool (tableB f)) ∧ Gr w w' := by
  obtain ⟨nm, nu, kd, wd, di, ix, ks⟩ := f
  have hk : ∀ w, Calls Tryd.prog 82 #[.int .i64 kd] w fun e w' => e = .returned (.bool (kindB kd)) ∧ w' = w := fun w => isKind_any kd w
  have hll : ks.length ≤ 1000000000000 := hl
  obtain ⟨wb, hwb⟩ : ∃ wb, wb = widthB ⟨nm, nu, kd, wd, di, ix, ks⟩ := ⟨_, rfl⟩
  obtain ⟨db, hdb⟩ : ∃ db, db = dictB ⟨nm, nu, kd, wd, di, ix, ks⟩ := ⟨_, rfl⟩
  have hw : ∀ w, Calls Tryd.prog 83 #[.agg #[.int .i64 kd, .int .i64 wd, .int .i64 di, .int .i64 ix, .slice ao ks.length ca]] w fun e w' => e = .returned (.bool wb) ∧ Gr w w' := by rw [hwb]; exact fitsWidth_any ⟨nm, nu, kd, wd, di, ix, ks⟩ ao ca
  have hd : ∀ w, Calls Tryd.prog 84 #[.agg #[.int .i64 kd, .int .i64 wd, .int .i64 di, .int .i64 ix, .slice ao ks.length ca]] w fun e w' => e = .returned (.bool db) ∧ Gr w w' := by rw [hdb]; exact fitsDict_any ⟨nm, nu, kd, wd, di, ix, ks⟩ ao ca
  have hB : tableB ⟨nm, nu, kd, wd, di, ix, ks⟩ = (kindB kd && (decide (leastK kd.toNat ≤ (ks.length : Int)) && decide ((ks.length : Int) ≤ mostK kd.toNat) && wb && db)) := by rw [hwb, hdb]; rfl
  show Calls Tryd.prog 74 #[.agg #[.int .i64 kd, .int .i64 wd, .int .i64 di, .int .i64 ix, .slice ao ks.length ca]] w _
  have hK : kindB kd = true → ∃ k : Nat, k < 21 ∧ kd = k := fun h => by
    simp [kindB] at h
    exact ⟨kd.toNat, by omega, by omega⟩
  clear hwb hdb hl
  generalize tableB ⟨nm, nu, kd, wd, di, ix, ks⟩ = tb at hB
  generalize hkb : kindB kd = kb at hk hB hK
  cases kb with
  | false =>
    subst hB
    clear hK hw hd hT hkb
    go_enter Tryd.func74, Tryd.ntmps74
    go_wp2_with (go_at_call 82; refine (hk _).mono ?_; rintro e w' ⟨rfl, rfl⟩)
    go_ret
    exact ⟨rfl, gr_alloc _ _⟩
  | true =>
    obtain ⟨k, hk21, rfl⟩ := hK rfl
    have hr := hT.2 k hk21
    rw [Int.toNat_natCast] at hB
    simp only [Bool.true_and] at hB
    obtain ⟨c0, c1, c2, c3, c4⟩ := hr
    have b0 : ∀ o, (w.alloc o).cell? ⟨0, k * 5, none⟩ = some (.string ⟨(wordK k).toArray⟩) := fun o => (gr_alloc w o).cell' c0 id
    have b1 : ∀ o, (w.alloc o).cell? ⟨0, k * 5 + 1, none⟩ = some (.int .i64 (bytesK k)) := fun o => (gr_alloc w o).cell' c1 id
    have b2 : ∀ o, (w.alloc o).cell? ⟨0, k * 5 + 2, none⟩ = some (.int .i64 (bufsK k)) := fun o => (gr_alloc w o).cell' c2 id
    have b3 : ∀ o, (w.alloc o).cell? ⟨0, k * 5 + 3, none⟩ = some (.int .i64 (leastK k)) := fun o => (gr_alloc w o).cell' c3 id
    have b4 : ∀ o, (w.alloc o).cell? ⟨0, k * 5 + 4, none⟩ = some (.int .i64 (mostK k)) := fun o => (gr_alloc w o).cell' c4 id
    generalize wordK k = e0 at b0
    generalize bytesK k = e1 at b1
    generalize bufsK k = e2 at b2
    generalize leastK k = e3 at b3 hB
    generalize mostK k = e4 at b4 hB
    have HB : Hid _ := hB
    have HL : Hid _ := hll
    obtain ⟨L, hL⟩ : ∃ L, ks.length = L := ⟨_, rfl⟩
    rw [hL] at hll hw hd ⊢
    have HB : Hid (tb = (decide (e3 ≤ (L : Int)) && decide ((L : Int) ≤ e4) && wb && db)) := by rw [← hL]; exact hB
    clear hT c0 c1 c2 c3 c4 hB hkb hL HL
    go_enter Tryd.func74, Tryd.ntmps74
    go_wp2_with (go_at_call 82; refine (hk _).mono ?_; rintro e w' ⟨rfl, rfl⟩)
    go_region
    obtain ⟨W2, hW2⟩ : ∃ W2, ((w.alloc (.cells #[.int .i64 (k : Int), .int .i64 wd, .int .i64 di, .int .i64 ix, .slice ao L ca] 33)).alloc (.cells #[.string ⟨e0.toArray⟩, .int .i64 e1, .int .i64 e2, .int .i64 e3, .int .i64 e4] 112)).drew = W2 := ⟨_, rfl⟩
    have HG : Hid (Gr w W2) := by rw [← hW2]; exact (((Keeps.refl w _).alloc _).alloc _).drew
    have x1 : W2.heap[w.heap.size]? = some (.cells #[.int .i64 (k : Int), .int .i64 wd, .int .i64 di, .int .i64 ix, .slice ao L ca] 33) := by
      rw [← hW2]; exact (Below.heap_alloc _ _ _ (by simp)).trans (World.alloc_heap_new w _)
    have x2 : W2.heap[w.heap.size + 1]? = some (.cells #[.string ⟨e0.toArray⟩, .int .i64 e1, .int .i64 e2, .int .i64 e3, .int .i64 e4] 112) := by
      rw [← hW2]
      have := World.alloc_heap_new (w.alloc (.cells #[.int .i64 (k : Int), .int .i64 wd, .int .i64 di, .int .i64 ix, .slice ao L ca] 33)) (.cells #[.string ⟨e0.toArray⟩, .int .i64 e1, .int .i64 e2, .int .i64 e3, .int .i64 e4] 112)
      rw [World.size_alloc] at this
      exact this
    have HX : Hid _ := And.intro x1 x2
    have y0 : ∀ W3, Gr W2 W3 → W3.heap[w.heap.size]? = some (.cells #[.int .i64 (k : Int), .int .i64 wd, .int .i64 di, .int .i64 ix, .slice ao L ca] 33) := fun W3 g => (g.block _ (Array.getElem?_eq_some_iff.1 x1).1 (fun h => h)).trans x1
    have HY : Hid _ := y0
    have z0 : W2.cell? ⟨w.heap.size, 0, none⟩ = some (.int .i64 (k : Int)) := by simp [World.cell?, x1]
    have z1 : W2.cell? ⟨w.heap.size, 1, none⟩ = some (.int .i64 wd) := by simp [World.cell?, x1]
    have z2 : W2.cell? ⟨w.heap.size, 2, none⟩ = some (.int .i64 di) := by simp [World.cell?, x1]
    have z3 : W2.cell? ⟨w.heap.size, 3, none⟩ = some (.int .i64 ix) := by simp [World.cell?, x1]
    have z4 : W2.cell? ⟨w.heap.size, 4, none⟩ = some (.slice ao L ca) := by simp [World.cell?, x1]
    have z5 : W2.cell? ⟨w.heap.size + 1, 3, none⟩ = some (.int .i64 e3) := by simp [World.cell?, x2]
    have z6 : W2.cell? ⟨w.heap.size + 1, 4, none⟩ = some (.int .i64 e4) := by simp [World.cell?, x2]
    rw [hW2]
    clear hW2 x1 x2 y0 b0 b1 b2 b3 b4 hk
    by_cases g1 : e3 ≤ (L : Int)
    · by_cases g2 : (L : Int) ≤ e4
      · cases wb with
        | true =>
          go_wp2_with (first
            | (go_at_call 83; refine (hw _).mono ?_; clear hw; rintro e w2 ⟨rfl, hg2⟩; have y := HY.out w2 hg2; have z0 : w2.cell? ⟨w.heap.size, 0, none⟩ = some (.int .i64 (k : Int)) := (by simp [World.cell?, y]); have z1 : w2.cell? ⟨w.heap.size, 1, none⟩ = some (.int .i64 wd) := (by simp [World.cell?, y]); have z2 : w2.cell? ⟨w.heap.size, 2, none⟩ = some (.int .i64 di) := (by simp [World.cell?, y]); have z3 : w2.cell? ⟨w.heap.size, 3, none⟩ = some (.int .i64 ix) := (by simp [World.cell?, y]); have z4 : w2.cell? ⟨w.heap.size, 4, none⟩ = some (.slice ao L ca) := (by simp [World.cell?, y]); have HG2 : Hid (Gr w w2) := HG.out.trans hg2 (fun _ _ h => h); clear y hg2)
            | (go_at_call 84; refine (hd _).mono ?_; clear hd; rintro e w3 ⟨rfl, hg3⟩; have HG3 : Hid (Gr w w3) := HG2.out.trans hg3 (fun _ _ h => h); clear hg3))
          go_ret
          exact ⟨congrArg (fun b => Ending.returned (.bool b)) (by rw [HB.out]; simp [g1, g2]), HG3.out⟩
        | false =>
          go_wp2_with (go_at_call 83; refine (hw _).mono ?_; clear hw; rintro e w2 ⟨rfl, hg2⟩; have HG2 : Hid (Gr w w2) := HG.out.trans hg2 (fun _ _ h => h); clear hg2)
          go_ret
          exact ⟨congrArg (fun b => Ending.returned (.bool b)) (by rw [HB.out]; simp), HG2.out⟩
      · go_wp2_with fail
        go_ret
        exact ⟨congrArg (fun b => Ending.returned (.bool b)) (by rw [HB.out, decide_eq_false (Int.not_le.2 g2)]; simp), HG.out⟩
    · go_wp2_with fail
      go_ret
      exact ⟨congrArg (fun b => Ending.returned (.bool b)) (by rw [HB.out, decide_eq_false (Int.not_le.2 g1)]; simp), HG.out⟩
end Go.Proofs.YtfepbpibhcfjdaaDoor.Kit
