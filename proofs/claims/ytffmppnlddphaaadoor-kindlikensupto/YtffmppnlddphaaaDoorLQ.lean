import Derived.Test.YtffmppnlddphaaaDoorLP
import Derived.Deep.RegionHeld3
namespace Go.Proofs.YtffmppnlddphaaaDoor.Kit
open Go.RowKit Go.Shelf Go.Deep
set_option linter.unusedVariables false
attribute [local go_sem] run_store_func

/-- a list of schemas, as it lies in memory -/
def SchsAt (S : Nat → Prop) (W : World) (D : Nat) (lo : Option Addr) (l : List (List FT × List (ByteArray × ByteArray))) : Prop :=
  ∀ i (h : i < l.length), ∃ b o fo cf no cn, lo = some ⟨b, o, none⟩ ∧ W.cell? ⟨b, o + i * 2, none⟩ = some (.slice fo l[i].1.length cf) ∧ W.cell? ⟨b, o + i * 2 + 1, none⟩ = some (.slice no l[i].2.length cn) ∧ l[i].1.length ≤ cf ∧ RowAt S W D fo l[i].1 ∧ NotesAt W no l[i].2
structure BX (w W : World) (X : Nat) (c : Array Value) (t : Nat) : Prop where
  g : Gr w W
  b : W.heap[X]? = some (.cells c t)
theorem BX.gr {w W W' : World} {X t : Nat} {c : Array Value} (h : BX w W X c t) (k : Gr W W') : BX w W' X c t := ⟨h.g.trans k (fun _ _ h => h), (k.block _ (lt_of_heap h.b) id).trans h.b⟩
theorem cell2 {W : World} {B t : Nat} {x y : Value} (h : W.heap[B]? = some (.cells #[x, y] t)) : W.cell? ⟨B, 0, none⟩ = some x ∧ W.cell? ⟨B, 1, none⟩ = some y := by simp [World.cell?, h]
theorem bx2 {w W : World} {X t : Nat} {x y : Value} (h : BX w W X #[x, y] t) : Hid (BX w W X #[x, y] t) ∧ W.cell? ⟨X, 0, none⟩ = some x ∧ W.cell? ⟨X, 1, none⟩ = some y := ⟨h, (cell2 h.b).1, (cell2 h.b).2⟩
theorem bx2_kept {w W W' : World} {X t : Nat} {x y : Value} (h : Hid (BX w W X #[x, y] t) ∧ W.cell? ⟨X, 0, none⟩ = some x ∧ W.cell? ⟨X, 1, none⟩ = some y) (k : Hid (Gr W W')) : Hid (BX w W' X #[x, y] t) ∧ W'.cell? ⟨X, 0, none⟩ = some x ∧ W'.cell? ⟨X, 1, none⟩ = some y := bx2 (h.1.out.gr k.out)
theorem bx2_g {w W : World} {X t : Nat} {x y : Value} (h : Hid (BX w W X #[x, y] t) ∧ W.cell? ⟨X, 0, none⟩ = some x ∧ W.cell? ⟨X, 1, none⟩ = some y) : Gr w W := h.1.out.g
theorem bx7 {w W : World} {X t : Nat} {x0 x1 x2 x3 x4 x5 x6 : Value} (h : BX w W X #[x0, x1, x2, x3, x4, x5, x6] t) : Hid (BX w W X #[x0, x1, x2, x3, x4, x5, x6] t) ∧ W.cell? ⟨X, 0, none⟩ = some x0 ∧ W.cell? ⟨X, 1, none⟩ = some x1 ∧ W.cell? ⟨X, 2, none⟩ = some x2 ∧ W.cell? ⟨X, 3, none⟩ = some x3 ∧ W.cell? ⟨X, 4, none⟩ = some x4 ∧ W.cell? ⟨X, 5, none⟩ = some x5 ∧ W.cell? ⟨X, 6, none⟩ = some x6 := by
  have hb := h.b
  refine ⟨h, ?_, ?_, ?_, ?_, ?_, ?_, ?_⟩ <;> simp [World.cell?, hb]
theorem bx7_kept {w W W' : World} {X t : Nat} {x0 x1 x2 x3 x4 x5 x6 : Value} (h : Hid (BX w W X #[x0, x1, x2, x3, x4, x5, x6] t) ∧ W.cell? ⟨X, 0, none⟩ = some x0 ∧ W.cell? ⟨X, 1, none⟩ = some x1 ∧ W.cell? ⟨X, 2, none⟩ = some x2 ∧ W.cell? ⟨X, 3, none⟩ = some x3 ∧ W.cell? ⟨X, 4, none⟩ = some x4 ∧ W.cell? ⟨X, 5, none⟩ = some x5 ∧ W.cell? ⟨X, 6, none⟩ = some x6) (k : Hid (Gr W W')) : Hid (BX w W' X #[x0, x1, x2, x3, x4, x5, x6] t) ∧ W'.cell? ⟨X, 0, none⟩ = some x0 ∧ W'.cell? ⟨X, 1, none⟩ = some x1 ∧ W'.cell? ⟨X, 2, none⟩ = some x2 ∧ W'.cell? ⟨X, 3, none⟩ = some x3 ∧ W'.cell? ⟨X, 4, none⟩ = some x4 ∧ W'.cell? ⟨X, 5, none⟩ = some x5 ∧ W'.cell? ⟨X, 6, none⟩ = some x6 := bx7 (h.1.out.gr k.out)
theorem bx7_g {w W : World} {X t : Nat} {x0 x1 x2 x3 x4 x5 x6 : Value} (h : Hid (BX w W X #[x0, x1, x2, x3, x4, x5, x6] t) ∧ W.cell? ⟨X, 0, none⟩ = some x0 ∧ W.cell? ⟨X, 1, none⟩ = some x1 ∧ W.cell? ⟨X, 2, none⟩ = some x2 ∧ W.cell? ⟨X, 3, none⟩ = some x3 ∧ W.cell? ⟨X, 4, none⟩ = some x4 ∧ W.cell? ⟨X, 5, none⟩ = some x5 ∧ W.cell? ⟨X, 6, none⟩ = some x6) : Gr w W := h.1.out.g

set_option maxRecDepth 100000 in
set_option maxHeartbeats 4000000 in
theorem checks_any (S : Nat → Prop) (D : Nat) (lo : Option Addr) (lc : Nat) (l : List (List FT × List (ByteArray × ByteArray))) (w : World) (hT : Tab w) (hD : D ≤ big) (hS : ∀ b, S b → b < w.heap.size) (hl : l.length ≤ big) (hat : SchsAt S w D lo l) :
    Calls Tryd.prog 4 #[.slice lo l.length lc] w fun e w' => e = .returned (.bool true) ∧ Gr w w' := by
  have haw := awake_any w hT
  have HT := hidM hT
  have HS := hidM hS
  have HAt := hidM hat
  have hlen : l.length ≤ 1000000000000 := hl
  obtain ⟨L, hL⟩ : ∃ L, L = l.length := ⟨_, rfl⟩
  rw [← hL] at hlen ⊢
  have HL := hidM hL
  have HD := hidM hD
  clear hT hS hat hl hL hD
  go_enter Tryd.func4, Tryd.ntmps4
  go_wp2_with (go_at_call 9; refine Calls.mono haw ?_; rintro e w1 ⟨rfl, hg1⟩)
  have HG1 := hidM hg1
  clear haw hg1
  go_loopw [11] (fun p wr => ∃ k : Nat, k ≤ L ∧ p = .int .i64 (k : Int) ∧ Hid (Gr w wr)) (fun p _ => L - (intOf p).toNat)
  case atStart => exact ⟨0, by omega, rfl, HG1.out⟩
  case round =>
    obtain ⟨k, hk, rfl, HK⟩ := hrel
    by_cases hlt : k < L
    · have hkl : k < l.length := by have := HL.out; omega
      obtain ⟨b, o, fo, cf, no, cn, rfl, c0, c1, hcf, hrow, hnotes⟩ := HAt.out k hkl
      obtain ⟨er, p, tt, hp65, h11, h12⟩ := tells_check (cn := cn) HT.out hrow hcf HD.out HS.out hnotes
      have HRow := hidM hrow
      obtain ⟨fs, hfs⟩ : ∃ fs, fs = l[k].1 := ⟨_, rfl⟩
      obtain ⟨ns, hns⟩ : ∃ ns, ns = l[k].2 := ⟨_, rfl⟩
      rw [← hfs] at c0 hcf h11 h12 HRow
      rw [← hns] at c1 h11 h12
      have C11 := hidM h11
      have C12 := hidM h12
      have C10 : Hid (∀ W ao ca bo cb, IntsAt W ao p → IntsAt W bo p → Calls Tryd.prog 10 #[.agg #[.int .i64 er, .slice ao p.length ca, .int .i64 tt], .agg #[.int .i64 er, .slice bo p.length cb, .int .i64 tt]] W fun e w' => e = .returned (.bool true) ∧ Gr W w') := fun W ao ca bo cb h1 h2 => eqFault_true er tt ao bo ca cb p (by unfold big; omega) W h1 h2
      replace c0 := HK.out.cell' c0 id
      replace c1 := HK.out.cell' c1 id
      have hltI : (k : Int) < (L : Int) := by omega
      clear hrow hnotes hfs hns h11 h12 hkl
      obtain ⟨W2, hW2⟩ : ∃ W2, wr.alloc (.cells #[.slice fo fs.length cf, .slice no ns.length cn] 27) = W2 := ⟨_, rfl⟩
      have hb2 : BX w W2 wr.heap.size #[.slice fo fs.length cf, .slice no ns.length cn] 27 := by rw [← hW2]; exact ⟨HK.out.alloc _, World.alloc_heap_new wr _⟩
      have HB2 := hidM hb2
      obtain ⟨d0, d1⟩ := cell2 hb2.b
      clear hb2
      unfold Tells at C11 C12
      go_wp2
      have HIN : Hid (Hid (BX w W2.drew wr.heap.size #[.slice fo fs.length cf, .slice no ns.length cn] 27) ∧ W2.drew.cell? ⟨wr.heap.size, 0, none⟩ = some (.slice fo fs.length cf) ∧ W2.drew.cell? ⟨wr.heap.size, 1, none⟩ = some (.slice no ns.length cn)) := bx2 (HB2.out.gr gr_drew)
      clear d0 d1
      go_region_held3 (fun w' => Hid (BX w w' wr.heap.size #[.slice fo fs.length cf, .slice no ns.length cn] 27) ∧ w'.cell? ⟨wr.heap.size, 0, none⟩ = some (.slice fo fs.length cf) ∧ w'.cell? ⟨wr.heap.size, 1, none⟩ = some (.slice no ns.length cn)) (first | with_reducible exact HIN.out | with_reducible exact bx2_kept (by assumption) hk3 | with_reducible exact bx2_kept (by assumption) hk2 | with_reducible exact bx2_kept (by assumption) hk1)
        (first
          | (go_at_call 11; refine Calls.mono (C11.out _ (bx2_g (by assumption))) ?_; rintro e v1 ⟨vo1, vc1, rfl, hk1, hi1⟩; replace hk1 := hidM hk1; replace hi1 := hidM hi1)
          | (go_at_call 12; refine Calls.mono (C12.out _ (bx2_g (by assumption))) ?_; rintro e v2 ⟨vo2, vc2, rfl, hk2, hi2⟩; replace hk2 := hidM hk2; replace hi2 := hidM hi2)
          | (go_at_call 10; refine Calls.mono (C10.out _ _ _ _ _ (by first | exact hi1.out | exact hi1.out.gr hk2.out) (by first | exact hi2.out | exact hi2.out.gr hk1.out)) ?_; rintro e v3 ⟨rfl, hk3⟩; replace hk3 := hidM hk3))
      rename_i hHeld
      have HB3 := hidM hHeld.1.out
      obtain ⟨_, d0, d1⟩ := hHeld
      clear hk1 hk2 hk3 hi1 hi2 HIN HB2 C11 C12 C10
      have hfl : fs.length ≤ 1000000000000 := HRow.out.len
      go_wp2
      go_loopw [24] (fun p wr => ∃ j : Nat, j ≤ fs.length ∧ p = .int .i64 (j : Int) ∧ Hid (Gr w wr)) (fun p _ => fs.length - (intOf p).toNat)
      case atStart => exact ⟨0, by omega, rfl, HB3.out.g⟩
      case round =>
        obtain ⟨j, hj, rfl, HJ⟩ := hrel
        by_cases hjl : j < fs.length
        · have hrr := HRow.out
          obtain ⟨d, rfl⟩ : ∃ d, D = d + 1 := by
            cases D with
            | zero => have : fs = [] := hrr; rw [this] at hjl; simp at hjl
            | succ d => exact ⟨d, rfl⟩
          obtain ⟨b', o', rfl, _, hcs⟩ := hrr.2 (fun e => by rw [e] at hjl; simp at hjl)
          obtain ⟨ao', ca', hc, hle', hr'⟩ := hcs j hjl
          obtain ⟨er2, p2, tt2, hp265, h13, h14⟩ := tells_field HT.out hr' hle' HD.out HS.out
          obtain ⟨g0, g1, g2, g3, g4, g5, g6⟩ := hc.kept (HJ.out.block b' (block_lt_of_cell hc.c0) id)
          obtain ⟨f, hf⟩ : ∃ f, f = fs[j]'hjl := ⟨_, rfl⟩
          rw [← hf] at g0 g1 g2 g3 g4 g5 g6 h13 h14 hle'
          have C13 := hidM h13
          have C14 := hidM h14
          have C10 : Hid (∀ W ao ca bo cb, IntsAt W ao p2 → IntsAt W bo p2 → Calls Tryd.prog 10 #[.agg #[.int .i64 er2, .slice ao p2.length ca, .int .i64 tt2], .agg #[.int .i64 er2, .slice bo p2.length cb, .int .i64 tt2]] W fun e w' => e = .returned (.bool true) ∧ Gr W w') := fun W ao ca bo cb h1 h2 => eqFault_true er2 tt2 ao bo ca cb p2 (by unfold big; omega) W h1 h2
          have hjI : (j : Int) < (fs.length : Int) := by omega
          clear hrr hcs hc hr' h13 h14 hf d0 d1
          obtain ⟨W3, hW3⟩ : ∃ W3, wr.alloc (.cells #[.string f.name, .bool f.nul, .int .i64 f.kind, .int .i64 f.width, .int .i64 f.id, .int .i64 f.index, .slice ao' f.kids.length ca'] 37) = W3 := ⟨_, rfl⟩
          have hb3 : BX w W3 wr.heap.size #[.string f.name, .bool f.nul, .int .i64 f.kind, .int .i64 f.width, .int .i64 f.id, .int .i64 f.index, .slice ao' f.kids.length ca'] 37 := by rw [← hW3]; exact ⟨HJ.out.alloc _, World.alloc_heap_new wr _⟩
          have HB4 := hidM hb3
          obtain ⟨_, s0, s1, s2, s3, s4, s5, s6⟩ := bx7 hb3
          clear hb3
          unfold Tells at C13 C14
          go_wp2
          have HIN : Hid (Hid (BX w W3.drew wr.heap.size #[.string f.name, .bool f.nul, .int .i64 f.kind, .int .i64 f.width, .int .i64 f.id, .int .i64 f.index, .slice ao' f.kids.length ca'] 37) ∧ W3.drew.cell? ⟨wr.heap.size, 0, none⟩ = some (.string f.name) ∧ W3.drew.cell? ⟨wr.heap.size, 1, none⟩ = some (.bool f.nul) ∧ W3.drew.cell? ⟨wr.heap.size, 2, none⟩ = some (.int .i64 f.kind) ∧ W3.drew.cell? ⟨wr.heap.size, 3, none⟩ = some (.int .i64 f.width) ∧ W3.drew.cell? ⟨wr.heap.size, 4, none⟩ = some (.int .i64 f.id) ∧ W3.drew.cell? ⟨wr.heap.size, 5, none⟩ = some (.int .i64 f.index) ∧ W3.drew.cell? ⟨wr.heap.size, 6, none⟩ = some (.slice ao' f.kids.length ca')) := bx7 (HB4.out.gr gr_drew)
          clear s0 s1 s2 s3 s4 s5 s6
          go_region_held3 (fun w' => Hid (BX w w' wr.heap.size #[.string f.name, .bool f.nul, .int .i64 f.kind, .int .i64 f.width, .int .i64 f.id, .int .i64 f.index, .slice ao' f.kids.length ca'] 37) ∧ w'.cell? ⟨wr.heap.size, 0, none⟩ = some (.string f.name) ∧ w'.cell? ⟨wr.heap.size, 1, none⟩ = some (.bool f.nul) ∧ w'.cell? ⟨wr.heap.size, 2, none⟩ = some (.int .i64 f.kind) ∧ w'.cell? ⟨wr.heap.size, 3, none⟩ = some (.int .i64 f.width) ∧ w'.cell? ⟨wr.heap.size, 4, none⟩ = some (.int .i64 f.id) ∧ w'.cell? ⟨wr.heap.size, 5, none⟩ = some (.int .i64 f.index) ∧ w'.cell? ⟨wr.heap.size, 6, none⟩ = some (.slice ao' f.kids.length ca')) (first | with_reducible exact HIN.out | with_reducible exact bx7_kept (by assumption) hk3 | with_reducible exact bx7_kept (by assumption) hk2 | with_reducible exact bx7_kept (by assumption) hk1)
            (first
              | (go_at_call 13; refine Calls.mono (C13.out _ (bx7_g (by assumption))) ?_; rintro e v1 ⟨vo1, vc1, rfl, hk1, hi1⟩; replace hk1 := hidM hk1; replace hi1 := hidM hi1)
              | (go_at_call 14; refine Calls.mono (C14.out _ (bx7_g (by assumption))) ?_; rintro e v2 ⟨vo2, vc2, rfl, hk2, hi2⟩; replace hk2 := hidM hk2; replace hi2 := hidM hi2)
              | (go_at_call 10; refine Calls.mono (C10.out _ _ _ _ _ (by first | exact hi1.out | exact hi1.out.gr hk2.out) (by first | exact hi2.out | exact hi2.out.gr hk1.out)) ?_; rintro e v3 ⟨rfl, hk3⟩; replace hk3 := hidM hk3))
          rename_i hHeld
          have HB5 := hidM hHeld.1.out.g
          clear hHeld hk1 hk2 hk3 hi1 hi2 HIN HB4 C13 C14 C10
          go_wp2
          go_roundw
          case rel => exact ⟨j + 1, by omega, by simp, HB5.out⟩
          case measure => simp [intOf]; omega
        · have hjn : j = fs.length := by omega
          have hjI : ¬ (j : Int) < (fs.length : Int) := by omega
          clear d0 d1
          go_wp2
          go_roundw
          case rel => exact ⟨k + 1, by omega, by simp, HJ.out⟩
          case measure => simp [intOf]; omega
    · have hkL : k = L := by omega
      subst hkL
      go_wp2
      go_ret
      exact ⟨rfl, HK.out⟩
end Go.Proofs.YtffmppnlddphaaaDoor.Kit
