import Derived.Test.YtegjpmodleigeaaGreatDoorWV
import Derived.Laws.IdiomStrings
import Derived.Test.YtegjpmodleigeaaGreatDoorRows
import Derived.ProofKit
import Derived.OpenShut
import Derived.ChangeOld
import Derived.Below
import Derived.Deep.Slices
import Derived.Lib.LaidTab
import Derived.Lib.LaidU8
import Derived.Deep.DeepHandedRow
set_option maxRecDepth 100000
set_option maxHeartbeats 4000000
namespace Go.Proofs.YtegjpmodleigeaaGreatDoor.Kit
open Go.RowKit Go.Shelf Go.Deep
open Go.Proofs.YtegjpmodleigeaaGreatDoor.Kd (Ans AnsV cell5 cell2)
set_option linter.unusedVariables false
set_option linter.unusedSimpArgs false
attribute [local go_sem] run_store_func
attribute [local go_sem] Oper.semAt_some
theorem cell7s {W : World} {g t : Nat} {a0 a1 a2 a3 a4 a5 a6 : Value} (h : W.heap[g]? = some (.cells #[a0, a1, a2, a3, a4, a5, a6] t)) : W.cell? ⟨g, 0, none⟩ = some a0 ∧ W.cell? ⟨g, 1, none⟩ = some a1 ∧ W.cell? ⟨g, 2, none⟩ = some a2 ∧ W.cell? ⟨g, 3, none⟩ = some a3 ∧ W.cell? ⟨g, 4, none⟩ = some a4 ∧ W.cell? ⟨g, 5, none⟩ = some a5 ∧ W.cell? ⟨g, 6, none⟩ = some a6 := by
  refine ⟨?_, ?_, ?_, ?_, ?_, ?_, ?_⟩ <;> simp [World.cell?, h]
theorem str56 (u : World) (v : Nat) (h0 : u.cell? ⟨v, 0, none⟩ = some (.int .u8 5)) (h1 : u.cell? ⟨v, 1, none⟩ = some (.int .u8 6)) : (convert 28 9 (.slice (some ⟨v, 0, none⟩) 2 2)).run Tryz.prog u = .ok (.string ⟨#[5, 6]⟩) u := by
  refine run_convert_bytes_back u 28 9 5 ⟨v, 0, none⟩ 2 [5, 6] Tryz.underlying28 Tryz.underlying5 Tryz.underlying9 fun j hj => ?_
  have : j = 0 ∨ j = 1 := by simp at hj; omega
  rcases this with rfl | rfl
  · exact h0
  · exact h1
theorem awake4 (W : World) (hT : Tab W) : Calls Tryz.prog 4 #[] W fun e w' => e = .returned (.bool true) ∧ Gr W w' := by
  obtain ⟨B1, hB1⟩ : ∃ B, W.alloc (.cells #[.string ⟨#[]⟩, .bool false, .int .i64 0, .int .i64 0, .int .i64 0, .int .i64 0, .slice none 0 0] 27) = B := ⟨_, rfl⟩
  have gB1 : Gr W B1 := (by rw [← hB1]; exact gr_alloc W _)
  have bB1 : B1.heap[W.heap.size]? = some (.cells #[.string ⟨#[]⟩, .bool false, .int .i64 0, .int .i64 0, .int .i64 0, .int .i64 0, .slice none 0 0] 27) := (by rw [← hB1]; exact heap_alloc_new W _)
  obtain ⟨cB10, cB11, cB12, cB13, cB14, cB15, cB16⟩ := cell7s bB1
  have xB10 := frz bB1 0
  have xB11 := frz bB1 1
  have xB12 := frz bB1 2
  have xB13 := frz bB1 3
  have xB14 := frz bB1 4
  have xB15 := frz bB1 5
  have xB16 := frz bB1 6
  have eB2 := setAll_blk W.heap.size 27 [(0, .string ⟨#[97]⟩), (1, .bool false), (2, .int .i64 3), (3, .int .i64 0), (4, .int .i64 0), (5, .int .i64 0), (6, .slice none 0 0)] B1 _ bB1
  have gB2 : Gr W (setAll B1 W.heap.size [(0, .string ⟨#[97]⟩), (1, .bool false), (2, .int .i64 3), (3, .int .i64 0), (4, .int .i64 0), (5, .int .i64 0), (6, .slice none 0 0)]) := gB1.trans (setAll_kp _ _ _) (fun j hj e => (by have e' : j = W.heap.size := e; omega))
  have bB2 : (setAll B1 W.heap.size [(0, .string ⟨#[97]⟩), (1, .bool false), (2, .int .i64 3), (3, .int .i64 0), (4, .int .i64 0), (5, .int .i64 0), (6, .slice none 0 0)]).heap[W.heap.size]? = some (.cells #[.string ⟨#[97]⟩, .bool false, .int .i64 3, .int .i64 0, .int .i64 0, .int .i64 0, .slice none 0 0] 27) := eB2
  clear eB2
  obtain ⟨B2, hB2⟩ : ∃ F, setAll B1 W.heap.size [(0, .string ⟨#[97]⟩), (1, .bool false), (2, .int .i64 3), (3, .int .i64 0), (4, .int .i64 0), (5, .int .i64 0), (6, .slice none 0 0)] = F := ⟨_, rfl⟩
  rw [hB2] at gB2 bB2
  simp only [setAll] at hB2
  obtain ⟨b, hb⟩ : ∃ b, B2.heap.size = b := ⟨_, rfl⟩
  obtain ⟨C1, hC1⟩ : ∃ C, B2.alloc (.cells #[] 5) = C := ⟨_, rfl⟩
  have gC1 : Gr B2 C1 := (by rw [← hC1]; exact gr_alloc B2 _)
  have sC1 : C1.heap.size = b + 1 := (by rw [← hC1]; simp [hb])
  have bC1 : C1.heap[b]? = some (.cells #[] 5) := (by rw [← hC1, ← hb]; exact heap_alloc_new B2 _)
  obtain ⟨C2, hC2⟩ : ∃ C, C1.alloc (.cells #[.int .u8 5] 5) = C := ⟨_, rfl⟩
  have gC2 : Gr C1 C2 := (by rw [← hC2]; exact gr_alloc C1 _)
  have sC2 : C2.heap.size = b + 2 := (by rw [← hC2]; simp [sC1])
  have bC2 : C2.heap[b + 1]? = some (.cells #[.int .u8 5] 5) := (by rw [← hC2, ← sC1]; exact heap_alloc_new C1 _)
  obtain ⟨C3, hC3⟩ : ∃ C, C2.alloc (.cells #[.slice (some ⟨b, 0, none⟩) 0 0, .slice (some ⟨b + 1, 0, none⟩) 1 1] 28) = C := ⟨_, rfl⟩
  have gC3 : Gr C2 C3 := (by rw [← hC3]; exact gr_alloc C2 _)
  have sC3 : C3.heap.size = b + 3 := (by rw [← hC3]; simp [sC2])
  have bC3 : C3.heap[b + 2]? = some (.cells #[.slice (some ⟨b, 0, none⟩) 0 0, .slice (some ⟨b + 1, 0, none⟩) 1 1] 28) := (by rw [← hC3, ← sC2]; exact heap_alloc_new C2 _)
  obtain ⟨C4, hC4⟩ : ∃ C, C3.alloc (.cells #[.int .i64 1, .int .i64 0, .int .i64 0, .slice (some ⟨b + 2, 0, none⟩) 2 2, .slice none 0 0, .slice none 0 0] 32) = C := ⟨_, rfl⟩
  have gC4 : Gr C3 C4 := (by rw [← hC4]; exact gr_alloc C3 _)
  have sC4 : C4.heap.size = b + 4 := (by rw [← hC4]; simp [sC3])
  have bC4 : C4.heap[b + 3]? = some (.cells #[.int .i64 1, .int .i64 0, .int .i64 0, .slice (some ⟨b + 2, 0, none⟩) 2 2, .slice none 0 0, .slice none 0 0] 32) := (by rw [← hC4, ← sC3]; exact heap_alloc_new C3 _)
  obtain ⟨C5, hC5⟩ : ∃ C, C4.alloc (.cells #[] 5) = C := ⟨_, rfl⟩
  have gC5 : Gr C4 C5 := (by rw [← hC5]; exact gr_alloc C4 _)
  have sC5 : C5.heap.size = b + 5 := (by rw [← hC5]; simp [sC4])
  have bC5 : C5.heap[b + 4]? = some (.cells #[] 5) := (by rw [← hC5, ← sC4]; exact heap_alloc_new C4 _)
  obtain ⟨C6, hC6⟩ : ∃ C, C5.alloc (.cells #[.int .u8 7, .int .u8 6] 5) = C := ⟨_, rfl⟩
  have gC6 : Gr C5 C6 := (by rw [← hC6]; exact gr_alloc C5 _)
  have sC6 : C6.heap.size = b + 6 := (by rw [← hC6]; simp [sC5])
  have bC6 : C6.heap[b + 5]? = some (.cells #[.int .u8 7, .int .u8 6] 5) := (by rw [← hC6, ← sC5]; exact heap_alloc_new C5 _)
  obtain ⟨C7, hC7⟩ : ∃ C, C6.alloc (.cells #[.slice (some ⟨b + 4, 0, none⟩) 0 0, .slice (some ⟨b + 5, 0, none⟩) 2 2] 28) = C := ⟨_, rfl⟩
  have gC7 : Gr C6 C7 := (by rw [← hC7]; exact gr_alloc C6 _)
  have sC7 : C7.heap.size = b + 7 := (by rw [← hC7]; simp [sC6])
  have bC7 : C7.heap[b + 6]? = some (.cells #[.slice (some ⟨b + 4, 0, none⟩) 0 0, .slice (some ⟨b + 5, 0, none⟩) 2 2] 28) := (by rw [← hC7, ← sC6]; exact heap_alloc_new C6 _)
  obtain ⟨C8, hC8⟩ : ∃ C, C7.alloc (.cells #[.int .i64 1, .int .i64 1, .int .i64 0, .slice (some ⟨b + 6, 0, none⟩) 2 2, .slice none 0 0, .slice none 0 0] 32) = C := ⟨_, rfl⟩
  have gC8 : Gr C7 C8 := (by rw [← hC8]; exact gr_alloc C7 _)
  have sC8 : C8.heap.size = b + 8 := (by rw [← hC8]; simp [sC7])
  have bC8 : C8.heap[b + 7]? = some (.cells #[.int .i64 1, .int .i64 1, .int .i64 0, .slice (some ⟨b + 6, 0, none⟩) 2 2, .slice none 0 0, .slice none 0 0] 32) := (by rw [← hC8, ← sC7]; exact heap_alloc_new C7 _)
  obtain ⟨C9, hC9⟩ : ∃ C, C8.alloc (.cells #[.int .i64 1, .int .i64 0, .int .i64 0, .slice (some ⟨b + 2, 0, none⟩) 2 2, .slice none 0 0, .slice none 0 0, .int .i64 1, .int .i64 1, .int .i64 0, .slice (some ⟨b + 6, 0, none⟩) 2 2, .slice none 0 0, .slice none 0 0] 32) = C := ⟨_, rfl⟩
  have gC9 : Gr C8 C9 := (by rw [← hC9]; exact gr_alloc C8 _)
  have sC9 : C9.heap.size = b + 9 := (by rw [← hC9]; simp [sC8])
  have bC9 : C9.heap[b + 8]? = some (.cells #[.int .i64 1, .int .i64 0, .int .i64 0, .slice (some ⟨b + 2, 0, none⟩) 2 2, .slice none 0 0, .slice none 0 0, .int .i64 1, .int .i64 1, .int .i64 0, .slice (some ⟨b + 6, 0, none⟩) 2 2, .slice none 0 0, .slice none 0 0] 32) := (by rw [← hC9, ← sC8]; exact heap_alloc_new C8 _)
  have k8 := gC9
  have k7 := gC8.trans k8 (fun _ _ h => h)
  have k6 := gC7.trans k7 (fun _ _ h => h)
  have k5 := gC6.trans k6 (fun _ _ h => h)
  have k4 := gC5.trans k5 (fun _ _ h => h)
  have k3 := gC4.trans k4 (fun _ _ h => h)
  have k2 := gC3.trans k3 (fun _ _ h => h)
  have k1 := gC2.trans k2 (fun _ _ h => h)
  have k0 := gC1.trans k1 (fun _ _ h => h)
  have gW9 := gB2.trans k0 (fun _ _ h => h)
  obtain ⟨m0, m1, m2, m3, m4, m5, m6⟩ := cell7s (((k0.block _ (lt_of_heap bB2) id).trans bB2))
  have q3 := cell2 ((k3.block _ (lt_of_heap bC3) id).trans bC3)
  have q7 := cell2 ((k7.block _ (lt_of_heap bC7) id).trans bC7)
  have q2 := cell1 ((k2.block _ (lt_of_heap bC2) id).trans bC2)
  have q6 := cell2 ((k6.block _ (lt_of_heap bC6) id).trans bC6)
  have g08 := gC1.trans (gC2.trans (gC3.trans (gC4.trans (gC5.trans (gC6.trans (gC7.trans gC8 (fun _ _ h => h)) (fun _ _ h => h)) (fun _ _ h => h)) (fun _ _ h => h)) (fun _ _ h => h)) (fun _ _ h => h)) (fun _ _ h => h)
  obtain ⟨f0, f1, f2, f3, f4, f5, f6⟩ := cell7s (((g08.block _ (lt_of_heap bB2) id).trans bB2))
  have g48 := gC5.trans (gC6.trans (gC7.trans gC8 (fun _ _ h => h)) (fun _ _ h => h)) (fun _ _ h => h)
  obtain ⟨u0, u1, u2, u3, u4, u5⟩ := cell6 ((g48.block _ (lt_of_heap bC4) id).trans bC4)
  obtain ⟨v0, v1, v2, v3, v4, v5⟩ := cell6 bC8
  obtain ⟨-, -, -, -, a4, a5⟩ := cell6 bC4
  have za4 := frz bC4 4
  have za5 := frz bC4 5
  have ia4 := set_idT (j := 4) (v := .slice none 0 0) bC4 rfl
  have ia5 := set_idT (j := 5) (v := .slice none 0 0) bC4 rfl
  have zb4 := frz bC8 4
  have zb5 := frz bC8 5
  have ib4 := set_idT (j := 4) (v := .slice none 0 0) bC8 rfl
  have ib5 := set_idT (j := 5) (v := .slice none 0 0) bC8 rfl
  have H5 := hidM (arrays5 (b + 8) 2 (b + 2) 2 (b + 1) 1 (b + 6) 2 (b + 5) 2 C9 (hT.gr gW9) bC9 (Nat.le_refl _) ⟨⟨_, _, q3.1⟩, q3.2, q2, q2, Nat.le_refl _, hT.gr gW9⟩ ⟨⟨_, _, q7.1⟩, q7.2, q6.2, q6.2, Nat.le_refl _, hT.gr gW9⟩)
  have HF9 : Hid (Gr W C9 ∧ C9.heap[W.heap.size]? = some (.cells #[.string ⟨#[97]⟩, .bool false, .int .i64 3, .int .i64 0, .int .i64 0, .int .i64 0, .slice none 0 0] 27) ∧ Tab W) := ⟨gW9, (k0.block _ (lt_of_heap bB2) id).trans bB2, hT⟩
  clear gC1 gC2 gC3 gC4 gC5 gC6 gC7 gC8 gC9 bC1 bC2 bC3 bC4 bC5 bC6 bC7 bC8 bC9 k0 k1 k2 k3 k4 k5 k6 k7 k8 gW9 gB2 bB2 q2 q3 q6 q7 g08 g48 gB1 bB1 hT
  go_enter Tryz.func4, Tryz.ntmps4
  go_wp2_with (first
    | (go_at_call 5; refine H5.out.mono ?_; rintro e w1 ⟨qc, bc, v2x, rfl, g1, hDc⟩; obtain ⟨K1, hK1⟩ : ∃ K, w1.alloc (.cells #[.int .i64 2, .int .i64 0, .int .i64 0, .slice (some ⟨qc, 0, none⟩) 2 bc, .slice none 0 0, .slice none 0 0] 32) = K := ⟨_, rfl⟩; have gK1 : Gr w1 K1 := (by rw [← hK1]; exact gr_alloc w1 _); have bK1 : K1.heap[w1.heap.size]? = some (.cells #[.int .i64 2, .int .i64 0, .int .i64 0, .slice (some ⟨qc, 0, none⟩) 2 bc, .slice none 0 0, .slice none 0 0] 32) := (by rw [← hK1]; exact heap_alloc_new w1 _); obtain ⟨K2, hK2⟩ : ∃ K, K1.alloc (.cells #[.string ⟨#[97]⟩, .bool false, .int .i64 3, .int .i64 0, .int .i64 0, .int .i64 0, .slice none 0 0] 27) = K := ⟨_, rfl⟩; have gK2 : Gr K1 K2 := (by rw [← hK2]; exact gr_alloc K1 _); have bK2 : K2.heap[K1.heap.size]? = some (.cells #[.string ⟨#[97]⟩, .bool false, .int .i64 3, .int .i64 0, .int .i64 0, .int .i64 0, .slice none 0 0] 27) := (by rw [← hK2]; exact heap_alloc_new K1 _); obtain ⟨K3, hK3⟩ : ∃ K, K2.alloc (.cells #[.slice (some ⟨K1.heap.size, 0, none⟩) 1 1, .slice none 0 0] 38) = K := ⟨_, rfl⟩; have gK3 : Gr K2 K3 := (by rw [← hK3]; exact gr_alloc K2 _); have bK3 : K3.heap[K2.heap.size]? = some (.cells #[.slice (some ⟨K1.heap.size, 0, none⟩) 1 1, .slice none 0 0] 38) := (by rw [← hK3]; exact heap_alloc_new K2 _); obtain ⟨K4, hK4⟩ : ∃ K, K3.alloc (.cells #[.int .i64 2, .int .i64 0, .int .i64 0, .slice (some ⟨qc, 0, none⟩) 2 bc, .slice none 0 0, .slice none 0 0] 32) = K := ⟨_, rfl⟩; have gK4 : Gr K3 K4 := (by rw [← hK4]; exact gr_alloc K3 _); have bK4 : K4.heap[K3.heap.size]? = some (.cells #[.int .i64 2, .int .i64 0, .int .i64 0, .slice (some ⟨qc, 0, none⟩) 2 bc, .slice none 0 0, .slice none 0 0] 32) := (by rw [← hK4]; exact heap_alloc_new K3 _); have g13 := gK2.trans gK3 (fun _ _ h => h); have g24 := gK3.trans gK4 (fun _ _ h => h); have g14 := gK2.trans g24 (fun _ _ h => h); have g04 := gK1.trans g14 (fun _ _ h => h); have gW1 := HF9.out.1.trans g1 (fun _ _ h => h); have gW4 := gW1.trans g04 (fun _ _ h => h); have fK1 := ((g1.trans gK1 (fun _ _ h => h)).block _ (lt_of_heap HF9.out.2.1) id).trans HF9.out.2.1; obtain ⟨n0, n1, n2, n3, n4, n5, n6⟩ := cell7s fK1; obtain ⟨-, -, -, -, p4, p5⟩ := cell6 bK1; have zp4 := frz bK1 4; have zp5 := frz bK1 5; have ip4 := set_idT (j := 4) (v := .slice none 0 0) bK1 rfl; have ip5 := set_idT (j := 5) (v := .slice none 0 0) bK1 rfl; obtain ⟨r0, r1⟩ := cell2 bK3; have zr1 := frz bK3 1; have ir1 := set_idT (j := 1) (v := .slice none 0 0) bK3 rfl; obtain ⟨d0, d1, d2, d3, d4, d5⟩ := cell6 ((g13.block _ (lt_of_heap bK1) id).trans bK1); have H6 := hidM (cut6 K1.heap.size K3.heap.size qc bc v2x K4 (HF9.out.2.2.gr gW4) ((g24.block _ (lt_of_heap bK2) id).trans bK2) bK4 (hDc.gr g04)); have HE4 : Hid (∀ u, Gr K4 u → (u.cell? ⟨w1.heap.size, 0, none⟩ = some (.int .i64 2) ∧ u.cell? ⟨w1.heap.size, 3, none⟩ = some (.slice (some ⟨qc, 0, none⟩) 2 bc)) ∧ u.cell? ⟨qc, 1, none⟩ = some (.slice (some ⟨v2x, 0, none⟩) 2 2) ∧ (convert 28 9 (.slice (some ⟨v2x, 0, none⟩) 2 2)).run Tryz.prog u = .ok (.string ⟨#[5, 6]⟩) u ∧ Gr W u) := fun u gu => (by have h6 := cell6 (((g14.trans gu (fun _ _ h => h)).block _ (lt_of_heap bK1) id).trans bK1); have hd := hDc.gr (g04.trans gu (fun _ _ h => h)); exact ⟨⟨h6.1, h6.2.2.2.1⟩, hd.b1, str56 u v2x hd.x0 hd.x1, gW4.trans gu (fun _ _ h => h)⟩); clear g13 g24 g14 g04 gW1 gW4 fK1 gK1 gK2 gK3 gK4 bK1 bK2 bK3 bK4 g1 hDc f0 f1 f2 f3 f4 f5 f6 u0 u1 u2 u3 u4 u5 v0 v1 v2 v3 v4 v5 m0 m1 m2 m3 m4 m5 m6 a4 a5 za4 za5 ia4 ia5 zb4 zb5 ib4 ib5 hC1 hC2 hC3 hC4 hC5 hC6 hC7 hC8 hC9 sC1 sC2 sC3 sC4 sC5 sC6 sC7 sC8 sC9 hb hB2 hB1 cB10 xB10 cB11 xB11 cB12 xB12 cB13 xB13 cB14 xB14 cB15 xB15 cB16 xB16)
    | (go_at_call 6; refine H6.out.mono ?_; rintro e w2 ⟨lb, lc, rfl, g2, hlc, hl⟩; obtain ⟨⟨e0, e3⟩, e1, ecv, eg⟩ := HE4.out w2 g2; have hlc2 : (2 : Int) ≤ (lc : Int) := (by omega); have HG := hidM eg; clear g2 eg n0 n1 n2 n3 n4 n5 n6 p4 p5 zp4 zp5 ip4 ip5 r0 r1 zr1 ir1 d0 d1 d2 d3 d4 d5 hK1 hK2 hK3 hK4 hlc))
  go_ret
  exact ⟨rfl, HG.out⟩
theorem names3 (W : World) (hT : Tab W) : Calls Tryz.prog 3 #[] W fun e w' => e = .returned (.bool true) ∧ Gr W w' := by
  have H := hidM (awake4 W hT)
  clear hT
  go_enter Tryz.func3, Tryz.ntmps3
  go_wp2_with (go_at_call 4; refine H.out.mono ?_; rintro e w9 ⟨rfl, g9⟩; have HE := hidM g9; clear g9)
  go_ret
  exact ⟨rfl, HE.out⟩
end Go.Proofs.YtegjpmodleigeaaGreatDoor.Kit
namespace Go.Proofs.YtegjpmodleigeaaGreatDoor.kindR
open Go.ChangeShapes Go.WideShapes Go.ChangeAt Go.RowKit Go.Deep
open Go.Proofs.YtegjpmodleigeaaGreatDoor
set_option linter.unusedVariables false
def rowD (k : Nat) : DataW Unit := .agg [.lit (.string (Kit.wordK k)), .lit (.int .i64 (Kit.bytesK k)), .lit (.int .i64 (Kit.bufsK k)), .lit (.int .i64 (Kit.leastK k)), .lit (.int .i64 (Kit.mostK k))]
theorem laid_rows : (Rows.laid_colonnade_kind_kinds : DataW Unit) = .agg ((List.range 21).map rowD) := rfl
theorem cells85 : Tryz.prog.cellsOf 165 = 5 := by kernel_rfl
theorem cells86 : Tryz.prog.cellsOf 166 = 105 := by kernel_rfl
theorem cells3 : Tryz.prog.cellsOf 3 = 1 := by kernel_rfl
theorem cells9 : Tryz.prog.cellsOf 9 = 1 := by kernel_rfl
theorem gKinds : Tryz.prog.globalNamed "colonnade/kind.kinds" = some 0 := by kernel_rfl
theorem gKindsT : (Tryz.prog.globals[0]?).map (·.type) = some 166 := by kernel_rfl
/-- one row, read -/
theorem row_at {W : World} {fuel : Nat} {cs : List Value} {k : Nat} {p : List MemPlace} (h : DataW.trod (fun _ => ()) Tryz.prog W 0 (fun _ => true) false fuel 165 cs = some (rowD k, p)) :
    cs = [.string ⟨(Kit.wordK k).toArray⟩, .int .i64 (Kit.bytesK k), .int .i64 (Kit.bufsK k), .int .i64 (Kit.leastK k), .int .i64 (Kit.mostK k)] := by
  obtain ⟨xs, m, _, hd, hl, hxs, hf⟩ := DataW.trod_struct Tryz.underlying165 h
  rw [cells85] at hl
  obtain ⟨c0, c1, c2, c3, c4, rfl⟩ : ∃ c0 c1 c2 c3 c4, cs = [c0, c1, c2, c3, c4] := by
    match cs, hl with
    | [a, b, c, d, e], _ => exact ⟨a, b, c, d, e, rfl⟩
  obtain ⟨y0, y1, y2, y3, y4, rfl⟩ : ∃ y0 y1 y2 y3 y4, xs = [y0, y1, y2, y3, y4] := by
    match xs, (hxs.trans rfl : xs.length = 5) with
    | [a, b, c, d, e], _ => exact ⟨a, b, c, d, e, rfl⟩
  have f0 : DataW.trod (fun _ => ()) Tryz.prog W 0 (fun _ => true) false m 9 ((([c0, c1, c2, c3, c4] : List Value).drop 0).take (Tryz.prog.cellsOf 9)) = some y0 := hf 0 _ rfl
  have f1 : DataW.trod (fun _ => ()) Tryz.prog W 0 (fun _ => true) false m 3 ((([c0, c1, c2, c3, c4] : List Value).drop 1).take (Tryz.prog.cellsOf 3)) = some y1 := hf 1 _ rfl
  have f2 : DataW.trod (fun _ => ()) Tryz.prog W 0 (fun _ => true) false m 3 ((([c0, c1, c2, c3, c4] : List Value).drop 2).take (Tryz.prog.cellsOf 3)) = some y2 := hf 2 _ rfl
  have f3 : DataW.trod (fun _ => ()) Tryz.prog W 0 (fun _ => true) false m 3 ((([c0, c1, c2, c3, c4] : List Value).drop 3).take (Tryz.prog.cellsOf 3)) = some y3 := hf 3 _ rfl
  have f4 : DataW.trod (fun _ => ()) Tryz.prog W 0 (fun _ => true) false m 3 ((([c0, c1, c2, c3, c4] : List Value).drop 4).take (Tryz.prog.cellsOf 3)) = some y4 := hf 4 _ rfl
  rw [cells9] at f0
  rw [cells3] at f1 f2 f3 f4
  simp only [List.drop_zero, List.drop_succ_cons, List.take_succ_cons, List.take_zero] at f0 f1 f2 f3 f4
  obtain ⟨s, e0, g0, _⟩ := DataW.trod_string Tryz.underlying9 f0
  obtain ⟨k1, e1, g1, _⟩ := DataW.trod_int Tryz.underlying3 f1
  obtain ⟨k2, e2, g2, _⟩ := DataW.trod_int Tryz.underlying3 f2
  obtain ⟨k3, e3, g3, _⟩ := DataW.trod_int Tryz.underlying3 f3
  obtain ⟨k4, e4, g4, _⟩ := DataW.trod_int Tryz.underlying3 f4
  subst g0 g1 g2 g3 g4
  simp only [rowD, Prod.mk.injEq, DataW.agg.injEq, List.map_cons, List.map_nil, List.cons.injEq, DataW.lit.injEq, Lit.string.injEq, Lit.int.injEq, true_and, and_true] at hd
  obtain ⟨⟨h0, h1, h2, h3, h4⟩, _⟩ := hd
  simp only [List.cons.injEq, and_true] at e0 e1 e2 e3 e4
  rw [e0, e1, e2, e3, e4, h0, h1, h2, h3, h4]
/-- the table, as the rows list it -/
theorem table {W : World} {L : List (String × DataW Unit)} (h : laidMet Tryz.prog L W) (hm : ("colonnade/kind.kinds", Rows.laid_colonnade_kind_kinds) ∈ L) : Kit.Tab W := by
  obtain ⟨g', t', cs, fuel, p, hg', ht', hvar, hd⟩ := Lib.laidMet.reads h hm
  obtain rfl := Option.some.inj (gKinds.symm.trans hg')
  obtain rfl := Option.some.inj (gKindsT.symm.trans ht')
  rw [laid_rows] at hd
  obtain ⟨xs, m, _, he, hl, hx, hf⟩ := DataW.trod_array Tryz.underlying166 hd
  rw [cells86] at hl
  rw [cells85] at hf
  simp only [Prod.mk.injEq, DataW.agg.injEq] at he
  have hcell := fun i => World.var?_cell gKinds hvar i
  have hsz : cs.size = 105 := by simpa using hl
  refine ⟨?_, fun k hk => ?_⟩
  · have := hcell 0
    rw [Array.getElem?_eq_getElem (by omega)] at this
    have := block_lt_of_cell this
    exact this
  · have h1 := hf k hk
    rw [List.getElem?_eq_getElem (by omega)] at h1
    have h2 : (xs[k]'(by omega)).1 = rowD k := by
      have := congrArg (·[k]?) he.1
      simp only [List.getElem?_map, List.getElem?_range hk, Option.map_some] at this
      rw [List.getElem?_eq_getElem (by omega)] at this
      simpa using this.symm
    have h3 := row_at (k := k) (p := (xs[k]'(by omega)).2) (by rw [h1, ← h2])
    have h4 : ∀ j, j < 5 → cs[k * 5 + j]? = ([.string ⟨(Kit.wordK k).toArray⟩, .int .i64 (Kit.bytesK k), .int .i64 (Kit.bufsK k), .int .i64 (Kit.leastK k), .int .i64 (Kit.mostK k)] : List Value)[j]? := fun j hj => by
      rw [← h3, List.getElem?_take_of_lt hj, List.getElem?_drop, Array.getElem?_toList]
    exact ⟨(hcell _).trans (h4 0 (by decide)), (hcell _).trans (h4 1 (by decide)), (hcell _).trans (h4 2 (by decide)), (hcell _).trans (h4 3 (by decide)), (hcell _).trans (h4 4 (by decide))⟩
end Go.Proofs.YtegjpmodleigeaaGreatDoor.kindR
