import Derived.Test.YtffmppnlddphaaaDoorMF
import Derived.Test.YtffmppnlddphaaaDoorKC
namespace Go.Proofs.YtffmppnlddphaaaDoor.Kit
open Go.RowKit Go.Shelf Go.Deep
set_option linter.unusedVariables false
attribute [local go_sem] run_store_func

def StrsAt (W : World) (lo : Option Addr) (l : List ByteArray) : Prop := l ≠ [] → ∃ b o, lo = some ⟨b, o, none⟩ ∧ ∀ i (h : i < l.length), W.cell? ⟨b, o + i, none⟩ = some (.string l[i])
/-- two boxes of two cells each -/
structure B2 (w W : World) (X : Nat) (c d : Array Value) : Prop where
  g : Gr w W
  b0 : W.heap[X]? = some (.cells c 27)
  b1 : W.heap[X + 1]? = some (.cells d 27)
theorem B2.gr {w W W' : World} {X : Nat} {c d : Array Value} (h : B2 w W X c d) (k : Gr W W') : B2 w W' X c d := ⟨h.g.trans k (fun _ _ h => h), (k.block _ (lt_of_heap h.b0) id).trans h.b0, (k.block _ (lt_of_heap h.b1) id).trans h.b1⟩
theorem b2_of {w W : World} {X : Nat} {fo no go' mo : Option Addr} {L cf L2 cn M cg M2 cm : Nat} (h : B2 w W X #[.slice fo L cf, .slice no L2 cn] #[.slice go' M cg, .slice mo M2 cm]) : Hid (B2 w W X #[.slice fo L cf, .slice no L2 cn] #[.slice go' M cg, .slice mo M2 cm]) ∧ W.cell? ⟨X, 0, none⟩ = some (.slice fo L cf) ∧ W.cell? ⟨X, 1, none⟩ = some (.slice no L2 cn) ∧ W.cell? ⟨X + 1, 0, none⟩ = some (.slice go' M cg) ∧ W.cell? ⟨X + 1, 1, none⟩ = some (.slice mo M2 cm) := ⟨h, (cell2 h.b0).1, (cell2 h.b0).2, (cell2 h.b1).1, (cell2 h.b1).2⟩
theorem b2_kept {w W : World} {X : Nat} {fo no go' mo : Option Addr} {L cf L2 cn M cg M2 cm : Nat} {W' : World} (h : Hid (B2 w W X #[.slice fo L cf, .slice no L2 cn] #[.slice go' M cg, .slice mo M2 cm]) ∧ W.cell? ⟨X, 0, none⟩ = some (.slice fo L cf) ∧ W.cell? ⟨X, 1, none⟩ = some (.slice no L2 cn) ∧ W.cell? ⟨X + 1, 0, none⟩ = some (.slice go' M cg) ∧ W.cell? ⟨X + 1, 1, none⟩ = some (.slice mo M2 cm)) (k : Hid (Gr W W')) : Hid (B2 w W' X #[.slice fo L cf, .slice no L2 cn] #[.slice go' M cg, .slice mo M2 cm]) ∧ W'.cell? ⟨X, 0, none⟩ = some (.slice fo L cf) ∧ W'.cell? ⟨X, 1, none⟩ = some (.slice no L2 cn) ∧ W'.cell? ⟨X + 1, 0, none⟩ = some (.slice go' M cg) ∧ W'.cell? ⟨X + 1, 1, none⟩ = some (.slice mo M2 cm) := b2_of (h.1.out.gr k.out)
theorem b2_g {w W : World} {X : Nat} {fo no go' mo : Option Addr} {L cf L2 cn M cg M2 cm : Nat} (h : Hid (B2 w W X #[.slice fo L cf, .slice no L2 cn] #[.slice go' M cg, .slice mo M2 cm]) ∧ W.cell? ⟨X, 0, none⟩ = some (.slice fo L cf) ∧ W.cell? ⟨X, 1, none⟩ = some (.slice no L2 cn) ∧ W.cell? ⟨X + 1, 0, none⟩ = some (.slice go' M cg) ∧ W.cell? ⟨X + 1, 1, none⟩ = some (.slice mo M2 cm)) : Gr w W := h.1.out.g
/-- and one of a field -/
structure B3 (w W : World) (X : Nat) (c d : Array Value) (F : Nat) (nm : ByteArray) : Prop where
  b : B2 w W X c d
  f : W.cell? ⟨F, 0, none⟩ = some (.string nm)
theorem b3_of {w W : World} {X : Nat} {fo no go' mo : Option Addr} {L cf L2 cn M cg M2 cm : Nat} {F : Nat} {nm : ByteArray} (h : B3 w W X #[.slice fo L cf, .slice no L2 cn] #[.slice go' M cg, .slice mo M2 cm] F nm) : Hid (B3 w W X #[.slice fo L cf, .slice no L2 cn] #[.slice go' M cg, .slice mo M2 cm] F nm) ∧ W.cell? ⟨X, 0, none⟩ = some (.slice fo L cf) ∧ W.cell? ⟨X, 1, none⟩ = some (.slice no L2 cn) ∧ W.cell? ⟨X + 1, 0, none⟩ = some (.slice go' M cg) ∧ W.cell? ⟨X + 1, 1, none⟩ = some (.slice mo M2 cm) ∧ W.cell? ⟨F, 0, none⟩ = some (.string nm) := ⟨h, (cell2 h.b.b0).1, (cell2 h.b.b0).2, (cell2 h.b.b1).1, (cell2 h.b.b1).2, h.f⟩
theorem b3_kept {w W : World} {X : Nat} {fo no go' mo : Option Addr} {L cf L2 cn M cg M2 cm : Nat} {F : Nat} {nm : ByteArray} {W' : World} (h : Hid (B3 w W X #[.slice fo L cf, .slice no L2 cn] #[.slice go' M cg, .slice mo M2 cm] F nm) ∧ W.cell? ⟨X, 0, none⟩ = some (.slice fo L cf) ∧ W.cell? ⟨X, 1, none⟩ = some (.slice no L2 cn) ∧ W.cell? ⟨X + 1, 0, none⟩ = some (.slice go' M cg) ∧ W.cell? ⟨X + 1, 1, none⟩ = some (.slice mo M2 cm) ∧ W.cell? ⟨F, 0, none⟩ = some (.string nm)) (k : Hid (Gr W W')) : Hid (B3 w W' X #[.slice fo L cf, .slice no L2 cn] #[.slice go' M cg, .slice mo M2 cm] F nm) ∧ W'.cell? ⟨X, 0, none⟩ = some (.slice fo L cf) ∧ W'.cell? ⟨X, 1, none⟩ = some (.slice no L2 cn) ∧ W'.cell? ⟨X + 1, 0, none⟩ = some (.slice go' M cg) ∧ W'.cell? ⟨X + 1, 1, none⟩ = some (.slice mo M2 cm) ∧ W'.cell? ⟨F, 0, none⟩ = some (.string nm) := b3_of ⟨h.1.out.b.gr k.out, k.out.cell' h.1.out.f id⟩
theorem b3_g {w W : World} {X : Nat} {fo no go' mo : Option Addr} {L cf L2 cn M cg M2 cm : Nat} {F : Nat} {nm : ByteArray} (h : Hid (B3 w W X #[.slice fo L cf, .slice no L2 cn] #[.slice go' M cg, .slice mo M2 cm] F nm) ∧ W.cell? ⟨X, 0, none⟩ = some (.slice fo L cf) ∧ W.cell? ⟨X, 1, none⟩ = some (.slice no L2 cn) ∧ W.cell? ⟨X + 1, 0, none⟩ = some (.slice go' M cg) ∧ W.cell? ⟨X + 1, 1, none⟩ = some (.slice mo M2 cm) ∧ W.cell? ⟨F, 0, none⟩ = some (.string nm)) : Gr w W := h.1.out.b.g

set_option maxRecDepth 100000 in
set_option maxHeartbeats 8000000 in
theorem schemas_any (S : Nat → Prop) (D : Nat) (fo no go' mo lo : Option Addr) (cf cn cg cm lc : Nat) (fs gs : List FT) (ns ms : List (ByteArray × ByteArray)) (names : List ByteArray) (w : World) (hT : Tab w) (hD : D ≤ big) (hS : ∀ b, S b → b < w.heap.size)
    (ha : Sch S w D fo no cf cn fs ns) (hb : Sch S w D go' mo cg cm gs ms) (hn : StrsAt w lo names) (hnl : names.length ≤ big) :
    Calls Tryd.prog 6 #[.agg #[.slice fo fs.length cf, .slice no ns.length cn], .agg #[.slice go' gs.length cg, .slice mo ms.length cm], .slice lo names.length lc] w fun e w' => e = .returned (.bool true) ∧ Gr w w' := by
  have HAW := hidM (fun W (g : Gr w W) => awake_any W (hT.gr g))
  obtain ⟨er, p, tt, ta⟩ := ha.tells hT hD hS
  obtain ⟨er', p', tt', tb⟩ := hb.tells hT hD hS
  obtain ⟨r1, a28, a29⟩ := both_alike ha hb ta tb hS
  obtain ⟨r2, b28, b29⟩ := both_alike hb ha tb ta hS
  obtain ⟨k1, a30, a31⟩ := both_count ha ta hS
  obtain ⟨k2, b30, b31⟩ := both_count hb tb hS
  have A28 := hidM a28
  have A29 := hidM a29
  have B28 := hidM b28
  have B29 := hidM b29
  have A30 := hidM a30
  have A31 := hidM a31
  have B30 := hidM b30
  have B31 := hidM b31
  have HF : Hid (∀ nm : ByteArray, ∃ k : Int, AnsV 32 #[.agg #[.slice fo fs.length cf, .slice no ns.length cn], .string nm] (.int .i64 k) w ∧ AnsV 33 #[.agg #[.slice fo fs.length cf, .slice no ns.length cn], .string nm] (.int .i64 k) w) := fun nm => both_find ha ta hS nm
  have HRow := hidM ha.row
  have HN := hidM hn
  have hfl : fs.length ≤ 1000000000000 := ha.row.len
  have hnl' : names.length ≤ 1000000000000 := hnl
  clear hT hD hS ha hb hn hnl ta tb a28 a29 b28 b29 a30 a31 b30 b31
  generalize hL : fs.length = L at *
  generalize hTn : names.length = T at *
  have HL := hidM hL
  have HTn := hidM hTn
  clear hL hTn
  generalize gs.length = M at *
  generalize ns.length = L2 at *
  generalize ms.length = M2 at *
  unfold Ans at A28 A29 B28 B29
  unfold AnsV at A30 A31 B30 B31 HF
  obtain ⟨W0, hW0⟩ : ∃ W0, (w.alloc (.cells #[.slice fo L cf, .slice no L2 cn] 27)).alloc (.cells #[.slice go' M cg, .slice mo M2 cm] 27) = W0 := ⟨_, rfl⟩
  have hb2 := two_boxes w (.slice fo L cf) (.slice no L2 cn) (.slice go' M cg) (.slice mo M2 cm) 27
  rw [hW0] at hb2
  obtain ⟨X, hX⟩ : ∃ X, X = w.heap.size := ⟨_, rfl⟩
  have HB0 : Hid (B2 w W0 X #[.slice fo L cf, .slice no L2 cn] #[.slice go' M cg, .slice mo M2 cm]) := ⟨by rw [← hW0]; exact (gr_alloc w _).alloc _, by rw [hX]; exact hb2.1, by rw [hX]; exact hb2.2⟩
  have HX := hidM hX
  clear hb2
  go_enter Tryd.func6, Tryd.ntmps6
  go_wp2_with (go_at_call 9; refine Hid.out ?_)
  unfold Hid
  refine Calls.mono (HAW.out _ HB0.out.g) ?_
  rintro e W1 ⟨rfl, hg1⟩
  rw [← hX]
  have HB1 := hidM (HB0.out.gr hg1)
  clear hg1 HB0 HAW hW0 hX
  go_wp2_with fail
  have HIN : Hid (Hid (B2 w W1.drew X #[.slice fo L cf, .slice no L2 cn] #[.slice go' M cg, .slice mo M2 cm]) ∧ W1.drew.cell? ⟨X, 0, none⟩ = some (.slice fo L cf) ∧ W1.drew.cell? ⟨X, 1, none⟩ = some (.slice no L2 cn) ∧ W1.drew.cell? ⟨X + 1, 0, none⟩ = some (.slice go' M cg) ∧ W1.drew.cell? ⟨X + 1, 1, none⟩ = some (.slice mo M2 cm)) := b2_of (HB1.out.gr gr_drew)
  go_region_held3 (fun w' => Hid (B2 w w' X #[.slice fo L cf, .slice no L2 cn] #[.slice go' M cg, .slice mo M2 cm]) ∧ w'.cell? ⟨X, 0, none⟩ = some (.slice fo L cf) ∧ w'.cell? ⟨X, 1, none⟩ = some (.slice no L2 cn) ∧ w'.cell? ⟨X + 1, 0, none⟩ = some (.slice go' M cg) ∧ w'.cell? ⟨X + 1, 1, none⟩ = some (.slice mo M2 cm)) (first | with_reducible exact HIN.out | with_reducible assumption | with_reducible exact b2_kept (by assumption) hk8 | with_reducible exact b2_kept (by assumption) hk7 | with_reducible exact b2_kept (by assumption) hk6 | with_reducible exact b2_kept (by assumption) hk5 | with_reducible exact b2_kept (by assumption) hk4 | with_reducible exact b2_kept (by assumption) hk3 | with_reducible exact b2_kept (by assumption) hk2 | with_reducible exact b2_kept (by assumption) hk1)
    (first
      | (go_at_call 28; (with_reducible show Calls _ _ #[.agg #[.slice fo L cf, .slice no L2 cn], .agg #[.slice go' M cg, .slice mo M2 cm]] _ _); refine Calls.mono (A28.out _ (b2_g (by assumption))) ?_; rintro e v1 ⟨rfl, hk1⟩; replace hk1 := hidM hk1)
      | (go_at_call 29; (with_reducible show Calls _ _ #[.agg #[.slice fo L cf, .slice no L2 cn], .agg #[.slice go' M cg, .slice mo M2 cm]] _ _); refine Calls.mono (A29.out _ (b2_g (by assumption))) ?_; rintro e v2 ⟨rfl, hk2⟩; replace hk2 := hidM hk2)
      | (go_at_call 28; (with_reducible show Calls _ _ #[.agg #[.slice go' M cg, .slice mo M2 cm], .agg #[.slice fo L cf, .slice no L2 cn]] _ _); refine Calls.mono (B28.out _ (b2_g (by assumption))) ?_; rintro e v3 ⟨rfl, hk3⟩; replace hk3 := hidM hk3)
      | (go_at_call 29; (with_reducible show Calls _ _ #[.agg #[.slice go' M cg, .slice mo M2 cm], .agg #[.slice fo L cf, .slice no L2 cn]] _ _); refine Calls.mono (B29.out _ (b2_g (by assumption))) ?_; rintro e v4 ⟨rfl, hk4⟩; replace hk4 := hidM hk4)
      | (go_at_call 30; (with_reducible show Calls _ _ #[.agg #[.slice fo L cf, .slice no L2 cn]] _ _); refine Calls.mono (A30.out _ (b2_g (by assumption))) ?_; rintro e v5 ⟨rfl, hk5⟩; replace hk5 := hidM hk5)
      | (go_at_call 31; (with_reducible show Calls _ _ #[.agg #[.slice fo L cf, .slice no L2 cn]] _ _); refine Calls.mono (A31.out _ (b2_g (by assumption))) ?_; rintro e v6 ⟨rfl, hk6⟩; replace hk6 := hidM hk6)
      | (go_at_call 30; (with_reducible show Calls _ _ #[.agg #[.slice go' M cg, .slice mo M2 cm]] _ _); refine Calls.mono (B30.out _ (b2_g (by assumption))) ?_; rintro e v7 ⟨rfl, hk7⟩; replace hk7 := hidM hk7)
      | (go_at_call 31; (with_reducible show Calls _ _ #[.agg #[.slice go' M cg, .slice mo M2 cm]] _ _); refine Calls.mono (B31.out _ (b2_g (by assumption))) ?_; rintro e v8 ⟨rfl, hk8⟩; replace hk8 := hidM hk8))
  rename_i hHeld
  have HB2 := hidM hHeld.1.out
  clear hHeld hk1 hk2 hk3 hk4 hk5 hk6 hk7 hk8 HIN HB1 A28 A29 B28 B29 A30 A31 B30 B31
  go_wp2
  go_loopw [45] (fun p wr => ∃ k : Nat, k ≤ T ∧ p = .int .i64 (k : Int) ∧ Hid (B2 w wr X #[.slice fo L cf, .slice no L2 cn] #[.slice go' M cg, .slice mo M2 cm])) (fun p _ => T - (intOf p).toNat)
  case atStart => exact ⟨0, by omega, rfl, HB2.out⟩
  case round =>
    obtain ⟨k, hk, rfl, HK⟩ := hrel
    by_cases hlt : k < T
    · have hkl : k < names.length := by have := HTn.out; omega
      obtain ⟨b, o, rfl, hcs⟩ := HN.out (fun e => by subst e; simp at hkl)
      have g0 := HK.out.g.cell' (hcs k hkl) id
      obtain ⟨nm, hnm⟩ : ∃ nm, nm = names[k]'hkl := ⟨_, rfl⟩
      rw [← hnm] at g0
      obtain ⟨z, h32, h33⟩ := HF.out nm
      have C32 := hidM h32
      have C33 := hidM h33
      have hltI : (k : Int) < (T : Int) := by omega
      clear hcs hnm h32 h33
      go_wp2
      have HIN : Hid (Hid (B2 w wr.drew X #[.slice fo L cf, .slice no L2 cn] #[.slice go' M cg, .slice mo M2 cm]) ∧ wr.drew.cell? ⟨X, 0, none⟩ = some (.slice fo L cf) ∧ wr.drew.cell? ⟨X, 1, none⟩ = some (.slice no L2 cn) ∧ wr.drew.cell? ⟨X + 1, 0, none⟩ = some (.slice go' M cg) ∧ wr.drew.cell? ⟨X + 1, 1, none⟩ = some (.slice mo M2 cm)) := b2_of (HK.out.gr gr_drew)
      clear g0
      go_region_held3 (fun w' => Hid (B2 w w' X #[.slice fo L cf, .slice no L2 cn] #[.slice go' M cg, .slice mo M2 cm]) ∧ w'.cell? ⟨X, 0, none⟩ = some (.slice fo L cf) ∧ w'.cell? ⟨X, 1, none⟩ = some (.slice no L2 cn) ∧ w'.cell? ⟨X + 1, 0, none⟩ = some (.slice go' M cg) ∧ w'.cell? ⟨X + 1, 1, none⟩ = some (.slice mo M2 cm)) (first | with_reducible exact HIN.out | with_reducible exact b2_kept (by assumption) hk2 | with_reducible exact b2_kept (by assumption) hk1)
        (first
          | (go_at_call 32; refine Calls.mono (C32.out _ (b2_g (by assumption))) ?_; rintro e v1 ⟨rfl, hk1⟩; replace hk1 := hidM hk1)
          | (go_at_call 33; refine Calls.mono (C33.out _ (b2_g (by assumption))) ?_; rintro e v2 ⟨rfl, hk2⟩; replace hk2 := hidM hk2))
      all_goals
        rename_i hHeld
        have HB3 := hidM hHeld.1.out
        clear hHeld hk1 hk2 HIN C32 C33
        go_wp2
        go_roundw
        case rel => exact ⟨k + 1, by omega, by simp, HB3.out⟩
        case measure => simp [intOf]; omega
    · have hkT : k = T := by omega
      subst hkT
      obtain ⟨_, d0, d1, d2, d3⟩ := b2_of HK.out
      go_wp2
      clear d0 d1 d2 d3
      have HB4 := hidM HK.out
      clear HK hk hlt
      go_loopw [60] (fun p wr => ∃ j : Nat, j ≤ L ∧ p = .int .i64 (j : Int) ∧ Hid (B2 w wr X #[.slice fo L cf, .slice no L2 cn] #[.slice go' M cg, .slice mo M2 cm])) (fun p _ => L - (intOf p).toNat)
      case atStart => exact ⟨0, by omega, rfl, HB4.out⟩
      case round =>
        obtain ⟨j, hj, rfl, HJ⟩ := hrel
        by_cases hlt : j < L
        · have hjl : j < fs.length := by have := HL.out; omega
          have hrr := HRow.out
          obtain ⟨d, rfl⟩ : ∃ d, D = d + 1 := by
            cases D with
            | zero => have : fs = [] := hrr; rw [this] at hjl; simp at hjl
            | succ d => exact ⟨d, rfl⟩
          obtain ⟨b', o', rfl, _, hcs⟩ := hrr.2 (fun e => by subst e; simp at hjl)
          obtain ⟨ao', ca', hc, hle', hr'⟩ := hcs j hjl
          obtain ⟨g0, g1, g2, g3, g4, g5, g6⟩ := hc.kept (HJ.out.g.block b' (block_lt_of_cell hc.c0) id)
          obtain ⟨f, hf⟩ : ∃ f, f = fs[j]'hjl := ⟨_, rfl⟩
          rw [← hf] at g0 g1 g2 g3 g4 g5 g6
          obtain ⟨z, h32, h33⟩ := HF.out f.name
          have C32 := hidM h32
          have C33 := hidM h33
          have hltI : (j : Int) < (L : Int) := by omega
          have HJ' := hidM (HJ.out.gr (gr_alloc wr (.cells #[.string f.name, .bool f.nul, .int .i64 f.kind, .int .i64 f.width, .int .i64 f.id, .int .i64 f.index, .slice ao' f.kids.length ca'] 37)))
          have hnew := World.alloc_heap_new wr (.cells #[.string f.name, .bool f.nul, .int .i64 f.kind, .int .i64 f.width, .int .i64 f.id, .int .i64 f.index, .slice ao' f.kids.length ca'] 37)
          have HNEW := hidM hnew
          clear hrr hcs hc hr' hf h32 h33 hnew
          by_cases h40 : j < 40
          · have h40' : (j : Int) < 40 := by omega
            go_wp2
            obtain ⟨W3, hW3⟩ : ∃ W3, wr.alloc (.cells #[.string f.name, .bool f.nul, .int .i64 f.kind, .int .i64 f.width, .int .i64 f.id, .int .i64 f.index, .slice ao' f.kids.length ca'] 37) = W3 := ⟨_, rfl⟩
            rw [hW3] at HJ' HNEW ⊢
            obtain ⟨F, hF⟩ : ∃ F, F = wr.heap.size := ⟨_, rfl⟩
            rw [← hF] at HNEW ⊢
            have HIN : Hid (Hid (B3 w W3.drew X #[.slice (some ⟨b', o', none⟩) L cf, .slice no L2 cn] #[.slice go' M cg, .slice mo M2 cm] F f.name) ∧ W3.drew.cell? ⟨X, 0, none⟩ = some (.slice (some ⟨b', o', none⟩) L cf) ∧ W3.drew.cell? ⟨X, 1, none⟩ = some (.slice no L2 cn) ∧ W3.drew.cell? ⟨X + 1, 0, none⟩ = some (.slice go' M cg) ∧ W3.drew.cell? ⟨X + 1, 1, none⟩ = some (.slice mo M2 cm) ∧ W3.drew.cell? ⟨F, 0, none⟩ = some (.string f.name)) := b3_of ⟨HJ'.out.gr gr_drew, gr_drew.cell' (w := W3) (by have h := HNEW.out; simp [World.cell?, h]) id⟩
            clear g0 g1 g2 g3 g4 g5 g6 hW3 hF HJ HJ' HNEW
            go_region_held3 (fun w' => Hid (B3 w w' X #[.slice (some ⟨b', o', none⟩) L cf, .slice no L2 cn] #[.slice go' M cg, .slice mo M2 cm] F f.name) ∧ w'.cell? ⟨X, 0, none⟩ = some (.slice (some ⟨b', o', none⟩) L cf) ∧ w'.cell? ⟨X, 1, none⟩ = some (.slice no L2 cn) ∧ w'.cell? ⟨X + 1, 0, none⟩ = some (.slice go' M cg) ∧ w'.cell? ⟨X + 1, 1, none⟩ = some (.slice mo M2 cm) ∧ w'.cell? ⟨F, 0, none⟩ = some (.string f.name)) (first | with_reducible exact HIN.out | with_reducible exact b3_kept (by assumption) hk2 | with_reducible exact b3_kept (by assumption) hk1)
              (first
                | (go_at_call 32; refine Calls.mono (C32.out _ (b3_g (by assumption))) ?_; rintro e v1 ⟨rfl, hk1⟩; replace hk1 := hidM hk1)
                | (go_at_call 33; refine Calls.mono (C33.out _ (b3_g (by assumption))) ?_; rintro e v2 ⟨rfl, hk2⟩; replace hk2 := hidM hk2))
            all_goals
              rename_i hHeld
              have HB3 := hidM hHeld.1.out.b
              clear hHeld hk1 hk2 HIN C32 C33
              go_wp2
              go_roundw
              case rel => exact ⟨j + 1, by omega, by simp, HB3.out⟩
              case measure => simp [intOf]; omega
          · have h40' : ¬ (j : Int) < 40 := by omega
            go_wp2
            clear g0 g1 g2 g3 g4 g5 g6
            refine wp_region_held_drew (S := fun _ => True) (by kernel_rfl) trivial (fun hHeld => ?_)
            refine wpAnyH_take (i := 0) (oi := { dst := some 65, op := Op.move (Operand.tmp 9), type := 3, pos := "law.go:78", after := #[], guard := none }) (v := .int .i64 (j : Int)) rfl (by kernel_rfl) (by kernel_rfl) (by kernel_rfl) (fun _ _ _ h => h) (Or.inl ⟨by rfl, ?z0⟩) (by assumption) ?_
            case z0 => (intro w hSw; go_simp; (try with_reducible rfl))
            (try simp only [Act.put]); (try simp only [List.setIfInBounds_toArray]); (try simp only [List.set_cons_succ]); (try simp only [List.set_cons_zero])
            refine wpAnyH_take (i := 1) (oi := { dst := some 66, op := Op.binOp BinOp.lss 3 (Operand.tmp 65) (Operand.const (Value.int IntKind.i64 40)) 3, type := 4, pos := "law.go:78", after := #[{ on := 0, ground := Ground.data }], guard := none }) (v := .bool false) rfl (by kernel_rfl) (by kernel_rfl) (by kernel_rfl) (fun _ _ _ h => h) (Or.inl ⟨by rfl, ?z1⟩) (by assumption) ?_
            case z1 => (intro w hSw; go_simp; (try with_reducible rfl))
            (try simp only [Act.put]); (try simp only [List.setIfInBounds_toArray]); (try simp only [List.set_cons_succ]); (try simp only [List.set_cons_zero])
            refine wpAnyH_take (i := 2) (oi := { dst := some 67, op := Op.move (Operand.tmp 66), type := 4, pos := "law.go:78", after := #[{ on := 1, ground := Ground.data }], guard := none }) (v := .bool false) rfl (by kernel_rfl) (by kernel_rfl) (by kernel_rfl) (fun _ _ _ h => h) (Or.inl ⟨by rfl, ?z2⟩) (by assumption) ?_
            case z2 => (intro w hSw; go_simp; (try with_reducible rfl))
            (try simp only [Act.put]); (try simp only [List.setIfInBounds_toArray]); (try simp only [List.set_cons_succ]); (try simp only [List.set_cons_zero])
            refine wpAnyH_take (i := 3) (oi := { dst := some 68, op := Op.load 27 (Operand.tmp 3), type := 27, pos := "law.go:78", after := #[{ on := 2, ground := Ground.guard }], guard := some (2, true) }) (v := undef) rfl (by kernel_rfl) (by kernel_rfl) (by kernel_rfl) (fun _ _ _ h => h) (Or.inr ⟨by kernel_rfl, rfl⟩) (by assumption) ?_
            (try simp only [Act.put]); (try simp only [List.setIfInBounds_toArray]); (try simp only [List.set_cons_succ]); (try simp only [List.set_cons_zero])
            refine wpAnyH_take (i := 4) (oi := { dst := some 69, op := Op.fieldAddr 37 (Operand.tmp 10) 0, type := 0, pos := "law.go:78", after := #[{ on := 2, ground := Ground.guard }], guard := some (2, true) }) (v := undef) rfl (by kernel_rfl) (by kernel_rfl) (by kernel_rfl) (fun _ _ _ h => h) (Or.inr ⟨by kernel_rfl, rfl⟩) (by assumption) ?_
            (try simp only [Act.put]); (try simp only [List.setIfInBounds_toArray]); (try simp only [List.set_cons_succ]); (try simp only [List.set_cons_zero])
            refine wpAnyH_take (i := 5) (oi := { dst := some 70, op := Op.load 9 (Operand.tmp 69), type := 9, pos := "law.go:78", after := #[{ on := 4, ground := Ground.data }, { on := 2, ground := Ground.guard }], guard := some (2, true) }) (v := undef) rfl (by kernel_rfl) (by kernel_rfl) (by kernel_rfl) (fun _ _ _ h => h) (Or.inr ⟨by kernel_rfl, rfl⟩) (by assumption) ?_
            (try simp only [Act.put]); (try simp only [List.setIfInBounds_toArray]); (try simp only [List.set_cons_succ]); (try simp only [List.set_cons_zero])
            refine wpAnyH_take (i := 6) (oi := { dst := some 71, op := Op.call { callee := Callee.value (Operand.func 32), args := #[Operand.tmp 68, Operand.tmp 70], argTypes := #[27, 9] }, type := 3, pos := "law.go:78", after := #[{ on := 3, ground := Ground.data }, { on := 5, ground := Ground.data }, { on := 2, ground := Ground.chain }, { on := 2, ground := Ground.guard }], guard := some (2, true) }) (v := undef) rfl (by kernel_rfl) (by kernel_rfl) (by kernel_rfl) (fun _ _ _ h => h) (Or.inr ⟨by kernel_rfl, rfl⟩) (by assumption) ?_
            (try simp only [Act.put]); (try simp only [List.setIfInBounds_toArray]); (try simp only [List.set_cons_succ]); (try simp only [List.set_cons_zero])
            refine wpAnyH_take (i := 7) (oi := { dst := some 72, op := Op.load 27 (Operand.tmp 3), type := 27, pos := "law.go:78", after := #[{ on := 2, ground := Ground.guard }], guard := some (2, true) }) (v := undef) rfl (by kernel_rfl) (by kernel_rfl) (by kernel_rfl) (fun _ _ _ h => h) (Or.inr ⟨by kernel_rfl, rfl⟩) (by assumption) ?_
            (try simp only [Act.put]); (try simp only [List.setIfInBounds_toArray]); (try simp only [List.set_cons_succ]); (try simp only [List.set_cons_zero])
            refine wpAnyH_take (i := 8) (oi := { dst := some 73, op := Op.fieldAddr 37 (Operand.tmp 10) 0, type := 0, pos := "law.go:78", after := #[{ on := 2, ground := Ground.guard }], guard := some (2, true) }) (v := undef) rfl (by kernel_rfl) (by kernel_rfl) (by kernel_rfl) (fun _ _ _ h => h) (Or.inr ⟨by kernel_rfl, rfl⟩) (by assumption) ?_
            (try simp only [Act.put]); (try simp only [List.setIfInBounds_toArray]); (try simp only [List.set_cons_succ]); (try simp only [List.set_cons_zero])
            refine wpAnyH_take (i := 9) (oi := { dst := some 74, op := Op.load 9 (Operand.tmp 73), type := 9, pos := "law.go:78", after := #[{ on := 8, ground := Ground.data }, { on := 2, ground := Ground.guard }], guard := some (2, true) }) (v := undef) rfl (by kernel_rfl) (by kernel_rfl) (by kernel_rfl) (fun _ _ _ h => h) (Or.inr ⟨by kernel_rfl, rfl⟩) (by assumption) ?_
            (try simp only [Act.put]); (try simp only [List.setIfInBounds_toArray]); (try simp only [List.set_cons_succ]); (try simp only [List.set_cons_zero])
            refine wpAnyH_take (i := 10) (oi := { dst := some 75, op := Op.call { callee := Callee.value (Operand.func 33), args := #[Operand.tmp 72, Operand.tmp 74], argTypes := #[27, 9] }, type := 3, pos := "law.go:78", after := #[{ on := 7, ground := Ground.data }, { on := 9, ground := Ground.data }, { on := 6, ground := Ground.chain }, { on := 2, ground := Ground.guard }], guard := some (2, true) }) (v := undef) rfl (by kernel_rfl) (by kernel_rfl) (by kernel_rfl) (fun _ _ _ h => h) (Or.inr ⟨by kernel_rfl, rfl⟩) (by assumption) ?_
            (try simp only [Act.put]); (try simp only [List.setIfInBounds_toArray]); (try simp only [List.set_cons_succ]); (try simp only [List.set_cons_zero])
            refine wpAnyH_take (i := 11) (oi := { dst := some 76, op := Op.binOp BinOp.neq 3 (Operand.tmp 71) (Operand.tmp 75) 3, type := 4, pos := "law.go:78", after := #[{ on := 6, ground := Ground.data }, { on := 10, ground := Ground.data }, { on := 2, ground := Ground.guard }], guard := some (2, true) }) (v := undef) rfl (by kernel_rfl) (by kernel_rfl) (by kernel_rfl) (fun _ _ _ h => h) (Or.inr ⟨by kernel_rfl, rfl⟩) (by assumption) ?_
            (try simp only [Act.put]); (try simp only [List.setIfInBounds_toArray]); (try simp only [List.set_cons_succ]); (try simp only [List.set_cons_zero])
            refine wpAnyH_take (i := 12) (oi := { dst := some 77, op := Op.pick (Operand.tmp 67) (Operand.tmp 76) (Operand.const (Value.bool false)), type := 4, pos := "law.go:78", after := #[{ on := 2, ground := Ground.data }, { on := 11, ground := Ground.data }], guard := none }) (v := .bool false) rfl (by kernel_rfl) (by kernel_rfl) (by kernel_rfl) (fun _ _ _ h => h) (Or.inl ⟨by rfl, ?z12⟩) (by assumption) ?_
            case z12 => (intro w hSw; go_simp; (try with_reducible rfl))
            (try simp only [Act.put]); (try simp only [List.setIfInBounds_toArray]); (try simp only [List.set_cons_succ]); (try simp only [List.set_cons_zero])
            refine wpAnyH_done (by kernel_rfl) ?_ _
            go_wp2
            go_roundw
            case rel => exact ⟨j + 1, by omega, by simp, HJ'.out.gr gr_drew⟩
            case measure => simp [intOf]; omega
        · have hjL : j = L := by omega
          subst hjL
          go_wp2
          go_ret
          exact ⟨rfl, HJ.out.g⟩
end Go.Proofs.YtffmppnlddphaaaDoor.Kit
