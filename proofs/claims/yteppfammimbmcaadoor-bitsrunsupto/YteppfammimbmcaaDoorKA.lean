import Derived.Test.YteppfammimbmcaaDoorAB
import Derived.Test.YteppfammimbmcaaDoorFA
namespace Go.Proofs.YteppfammimbmcaaDoor.Kit
open Go.RowKit Go.Deep
set_option linter.unusedVariables false

theorem src_map (w : World) (ao : Option Addr) (c : Nat) (l : List Nat) (hb : BytesAt w ao l) : Src Tryd.prog 1 24 (.slice ao l.length c) l.length (cellsB l) w := by
  cases ao with
  | none =>
    have h0 : l = [] := by
      by_cases h : 0 < l.length
      · obtain ⟨b, off, e, _⟩ := hb h; cases e
      · exact List.eq_nil_of_length_eq_zero (by omega)
    subst h0
    exact Src.ofNil _ Tryd.underlying24 c
  | some ad =>
    refine Src.ofSlice _ Tryd.underlying24 _ _ _ _ (by simp) ?_ (by intro u hu; obtain ⟨x, _, rfl⟩ := List.mem_map.1 hu; rfl)
    intro j v hj
    have hjl : j < l.length := by have := (List.getElem?_eq_some_iff.1 hj).1; simpa using this
    obtain ⟨b', off', e, hc⟩ := hb (by omega)
    simp only [Option.some.injEq] at e
    subst e
    simp only [List.getElem?_map, List.getElem?_eq_getElem hjl, Option.map_some, Option.some.injEq] at hj
    subst hj
    rw [Addr.add_lit, hc j hjl]
    simp [List.getElem?_eq_getElem hjl]
theorem src_bools (w : World) (ao : Option Addr) (c : Nat) (l : List Bool) (hb : BoolsAt w ao l.length (fun k => l.getD k false)) : Src Tryd.prog 1 25 (.slice ao l.length c) l.length (cellsO l) w := by
  cases ao with
  | none =>
    have h0 : l = [] := by
      by_cases h : 0 < l.length
      · obtain ⟨b, off, e, _⟩ := hb h; cases e
      · exact List.eq_nil_of_length_eq_zero (by omega)
    subst h0
    exact Src.ofNil _ Tryd.underlying25 c
  | some ad =>
    refine Src.ofSlice _ Tryd.underlying25 _ _ _ _ (by simp) ?_ (by intro u hu; obtain ⟨x, _, rfl⟩ := List.mem_map.1 hu; rfl)
    intro j v hj
    have hjl : j < l.length := by have := (List.getElem?_eq_some_iff.1 hj).1; simpa using this
    obtain ⟨b', off', e, hc⟩ := hb (by omega)
    simp only [Option.some.injEq] at e
    subst e
    simp only [List.getElem?_map, List.getElem?_eq_getElem hjl, Option.map_some, Option.some.injEq] at hj
    subst hj
    rw [Addr.add_lit, hc j hjl]
    simp [List.getElem?_eq_getElem hjl]
theorem src_byte (w : World) (u : Value) (hu : u.oneCell' = true) : Src Tryd.prog 1 24 (.slice (some ⟨w.heap.size, 0, none⟩) 1 1) 1 [u] (w.alloc (.cells #[u] 5)) := by
  refine Src.ofSlice _ Tryd.underlying24 _ _ _ _ (by simp) ?_ (by simpa using hu)
  intro j v hj
  match j, hj with
  | 0, hj => simp at hj; subst hj; simp [Addr.add]
def marksB (k : Nat) : List Nat := (List.range k).map fun i => 160 + i
def marksO (k : Nat) : List Bool := (List.range k).map fun i => i % 2 == 0
theorem marksB_succ (k : Nat) : marksB (k + 1) = marksB k ++ [160 + k] := by simp [marksB, List.range_succ]
theorem marksO_succ (k : Nat) : marksO (k + 1) = marksO k ++ [k % 2 == 0] := by simp [marksO, List.range_succ]
theorem marksB_length (k : Nat) : (marksB k).length = k := by simp [marksB]
theorem marksO_length (k : Nat) : (marksO k).length = k := by simp [marksO]

set_option maxRecDepth 100000 in
set_option maxHeartbeats 1000000 in
theorem wide_any (ao : Option Addr) (ca : Nat) (l : List Nat) (hl : l.length ≤ 100000000) (w : World) (hb : BytesAt w ao l) :
    Calls Tryd.prog 42 #[.slice ao l.length ca] w fun e w' => ∃ v, e = .returned v ∧ New w w' 5 v (cellsB (l ++ marksB 9)) := by
  have HS : Hid (Src Tryd.prog 1 24 (.slice ao l.length ca) l.length (cellsB l) w) := src_map w ao ca l hb
  clear hb
  go_enter Tryd.func42, Tryd.ntmps42
  go_wp2_with (first | (at_builtin; refine wpList_append_any _ rfl (.const (.slice none 0 0)) (.tmp 5) 24 24 rfl 5 (.int .u8 0) 1 Tryd.underlying24 info5 rfl _ _ _ rfl (World.ownsRow_nil w 0 5 1) _ _ _ rfl HS.out ?h63 ?hby ?_))
  case h63 => omega
  case hby => omega
  intro v' w1 hown' hgrow hblk
  obtain ⟨ao0, cap0, rfl⟩ := own_form hown'
  have HN : Hid (New w w1 5 (.slice ao0 (l.length + 0) cap0) (cellsB (l ++ marksB 0))) := by
    show New _ _ _ _ _
    have := (New.nil w 5).step (n' := l.length) (ys := cellsB l) (Keeps.refl _ _) (by simpa using hown') (by simp) hgrow hblk
    simpa [marksB] using this
  clear hown' hgrow hblk HS
  go_wp2
  go_loopw [3, 4] (fun v i wr => ∃ (k : Nat) (ao1 : Option Addr) (cap : Nat), k ≤ 9 ∧ i = .int .i64 k ∧ v = .slice ao1 (l.length + k) cap ∧ Hid (New w wr 5 (.slice ao1 (l.length + k) cap) (cellsB (l ++ marksB k)))) (fun _ i _ => 9 - (intOf i).toNat)
  case atStart => exact ⟨0, ao0, cap0, by omega, rfl, by simp, HN⟩
  case round =>
    clear HN
    obtain ⟨k, ao1, cap, hk, rfl, rfl, HN⟩ := hrel
    have hlen : (l ++ marksB k).length = l.length + k := by simp [marksB_length]
    have HO : Hid (wr.ownsRow 0 5 1 (.slice ao1 (l.length + k) cap) (l.length + k) (cellsB (l ++ marksB k))) := HN.out.own (by rw [List.length_map]; exact hlen)
    have HLN : Hid ((l ++ marksB (k + 1)).length = l.length + k + 1) := by show _ = _; simp [marksB_length]; omega
    clear hlen
    by_cases hlt : k < 9
    · have HV : Hid (cellsB (l ++ marksB k) ++ [Value.int .u8 (160 + (k : Int))] = cellsB (l ++ marksB (k + 1))) := by show _ = _; rw [marksB_succ]; simp
      go_wp2_with (first | (at_builtin; refine wpList_append_any _ rfl (.tmp 11) (.tmp 15) 24 24 rfl 5 (.int .u8 0) 1 Tryd.underlying24 info5 rfl _ _ _ rfl (HO.out.alloc _) _ _ _ rfl (src_byte wr _ rfl) ?h63 ?hby ?_))
      case h63 => omega
      case hby => omega
      intro v' w2 hown' hgrow hblk
      obtain ⟨ao', cap', rfl⟩ := own_form hown'
      have HN' : Hid (New w w2 5 (.slice ao' (l.length + k + 1) cap') (cellsB (l ++ marksB (k + 1)))) := by
        have hown2 : w2.ownsRow 0 5 1 (.slice ao' (l.length + k + 1) cap') (l.length + k + 1) (cellsB (l ++ marksB (k + 1))) := by rw [← HV.out]; simpa using hown'
        exact HN.out.step (n' := l.length + k + 1) (Keeps.none_alloc wr _) hown2 (by rw [List.length_map]; exact HLN.out) hgrow (by simpa using hblk)
      clear hown' hgrow hblk HN HO
      go_wp2
      go_roundw
      case rel => exact ⟨k + 1, ao', cap', by omega, by go_num, rfl, HN'⟩
      case measure => simp [intOf]; omega
    · obtain rfl : k = 9 := by omega
      clear HO
      go_wp2
      go_ret
      exact ⟨_, rfl, HN.out⟩

set_option maxRecDepth 100000 in
set_option maxHeartbeats 1000000 in
theorem wideBools_any (ao : Option Addr) (ca : Nat) (l : List Bool) (hl : l.length ≤ 100000000) (w : World) (hb : BoolsAt w ao l.length (fun k => l.getD k false)) :
    Calls Tryd.prog 43 #[.slice ao l.length ca] w fun e w' => ∃ v, e = .returned v ∧ New w w' 4 v (cellsO (l ++ marksO 9)) := by
  have HS : Hid (Src Tryd.prog 1 25 (.slice ao l.length ca) l.length (cellsO l) w) := src_bools w ao ca l hb
  clear hb
  go_enter Tryd.func43, Tryd.ntmps43
  go_wp2_with (first | (at_builtin; refine wpList_append_any _ rfl (.const (.slice none 0 0)) (.tmp 5) 25 25 rfl 4 (.bool false) 1 Tryd.underlying25 info4 rfl _ _ _ rfl (World.ownsRow_nil w 0 4 1) _ _ _ rfl HS.out ?h63 ?hby ?_))
  case h63 => omega
  case hby => omega
  intro v' w1 hown' hgrow hblk
  obtain ⟨ao0, cap0, rfl⟩ := own_form hown'
  have HN : Hid (New w w1 4 (.slice ao0 (l.length + 0) cap0) (cellsO (l ++ marksO 0))) := by
    show New _ _ _ _ _
    have := (New.nil w 4).step (n' := l.length) (ys := cellsO l) (Keeps.refl _ _) (by simpa using hown') (by simp) hgrow hblk
    simpa [marksO] using this
  clear hown' hgrow hblk HS
  go_wp2
  go_loopw [3, 4] (fun v i wr => ∃ (k : Nat) (ao1 : Option Addr) (cap : Nat), k ≤ 9 ∧ i = .int .i64 k ∧ v = .slice ao1 (l.length + k) cap ∧ Hid (New w wr 4 (.slice ao1 (l.length + k) cap) (cellsO (l ++ marksO k)))) (fun _ i _ => 9 - (intOf i).toNat)
  case atStart => exact ⟨0, ao0, cap0, by omega, rfl, by simp, HN⟩
  case round =>
    clear HN
    obtain ⟨k, ao1, cap, hk, rfl, rfl, HN⟩ := hrel
    have hlen : (l ++ marksO k).length = l.length + k := by simp [marksO_length]
    have HO : Hid (wr.ownsRow 0 4 1 (.slice ao1 (l.length + k) cap) (l.length + k) (cellsO (l ++ marksO k))) := HN.out.own (by rw [List.length_map]; exact hlen)
    have HLN : Hid ((l ++ marksO (k + 1)).length = l.length + k + 1) := by show _ = _; simp [marksO_length]; omega
    clear hlen
    by_cases hlt : k < 9
    · have hm2 : ((k : Int) % 2 == 0) = (k % 2 == 0) := by rw [Bool.eq_iff_iff]; simp; omega
      have HV : Hid (cellsO (l ++ marksO k) ++ [Value.bool ((k : Int) % 2 == 0)] = cellsO (l ++ marksO (k + 1))) := by show _ = _; rw [marksO_succ, hm2]; simp
      clear hm2
      go_wp2_with (first | (at_builtin; refine wpList_append_any _ rfl (.tmp 11) (.tmp 15) 25 25 rfl 4 (.bool false) 1 Tryd.underlying25 info4 rfl _ _ _ rfl (HO.out.alloc _) _ _ _ rfl (src_bool wr _ rfl) ?h63 ?hby ?_))
      case h63 => omega
      case hby => omega
      intro v' w2 hown' hgrow hblk
      obtain ⟨ao', cap', rfl⟩ := own_form hown'
      have HN' : Hid (New w w2 4 (.slice ao' (l.length + k + 1) cap') (cellsO (l ++ marksO (k + 1)))) := by
        have hown2 : w2.ownsRow 0 4 1 (.slice ao' (l.length + k + 1) cap') (l.length + k + 1) (cellsO (l ++ marksO (k + 1))) := by rw [← HV.out]; simpa using hown'
        exact HN.out.step (n' := l.length + k + 1) (Keeps.none_alloc wr _) hown2 (by rw [List.length_map]; exact HLN.out) hgrow (by simpa using hblk)
      clear hown' hgrow hblk HN HO
      go_wp2
      go_roundw
      case rel => exact ⟨k + 1, ao', cap', by omega, by go_num, rfl, HN'⟩
      case measure => simp [intOf]; omega
    · obtain rfl : k = 9 := by omega
      clear HO
      go_wp2
      go_ret
      exact ⟨_, rfl, HN.out⟩

/-- lists with room behind them -/
structure Giv where
  a : List Nat
  b : List Nat
  l : List Bool
def givV (a1 a2 a3 n1 n2 n3 c1 c2 c3 : Nat) : Value := .agg #[.slice (some ⟨a1, 0, none⟩) n1 c1, .slice (some ⟨a2, 0, none⟩) n2 c2, .slice (some ⟨a3, 0, none⟩) n3 c3]
/-- the three rows of a 'given': blocks a1, a2, a3 -/
structure GivAt (w : World) (a1 a2 a3 c1 c2 c3 : Nat) (g : Giv) : Prop where
  o1 : w.ownsRow 0 5 1 (.slice (some ⟨a1, 0, none⟩) (g.a.length + 9) c1) (g.a.length + 9) (cellsB (g.a ++ marksB 9))
  o2 : w.ownsRow 0 5 1 (.slice (some ⟨a2, 0, none⟩) (g.b.length + 9) c2) (g.b.length + 9) (cellsB (g.b ++ marksB 9))
  o3 : w.ownsRow 0 4 1 (.slice (some ⟨a3, 0, none⟩) (g.l.length + 9) c3) (g.l.length + 9) (cellsO (g.l ++ marksO 9))
  ne : a1 ≠ a2
  ba : Bytes g.a
  bb : Bytes g.b
  la : g.a.length ≤ 9000000
  lb : g.b.length ≤ 9000000
  ll : g.l.length ≤ 90000000
theorem GivAt.kept {w w' : World} {a1 a2 a3 c1 c2 c3 : Nat} {g : Giv} {S : Nat → Prop} (h : GivAt w a1 a2 a3 c1 c2 c3 g) (k : Keeps w w' S) (h1 : ¬ S a1) (h2 : ¬ S a2) (h3 : ¬ S a3) : GivAt w' a1 a2 a3 c1 c2 c3 g :=
  ⟨own_kept h.o1 k fun q hq => by simp [Value.ownBlock] at hq; subst hq; exact h1, own_kept h.o2 k fun q hq => by simp [Value.ownBlock] at hq; subst hq; exact h2, own_kept h.o3 k fun q hq => by simp [Value.ownBlock] at hq; subst hq; exact h3, h.ne, h.ba, h.bb, h.la, h.lb, h.ll⟩
theorem own_cap {w : World} {t : Nat} {g n c : Nat} {xs : List Value} (h : w.ownsRow 0 t 1 (.slice (some ⟨g, 0, none⟩) n c) n xs) : n ≤ c ∧ c ≤ 9223372036854775807 ∧ g < w.heap.size := by
  rcases h.2 with ⟨e, _⟩ | ⟨g', cap, cur, e, _, hgg, h1, h2, _⟩
  · simp at e
  · simp only [Value.slice.injEq, Option.some.injEq, Addr.mk.injEq, and_true, true_and] at e
    obtain ⟨rfl, rfl⟩ := e
    exact ⟨h1, by unfold maxLen at h2; omega, (Array.getElem?_eq_some_iff.1 hgg).1⟩
theorem GivAt.mapA {w : World} {a1 a2 a3 c1 c2 c3 : Nat} {g : Giv} (h : GivAt w a1 a2 a3 c1 c2 c3 g) : MapAt w (.slice (some ⟨a1, 0, none⟩) g.a.length c1) g.a := by
  have hc := own_cap h.o1
  refine ⟨⟨_, c1, rfl, fun hn => ⟨a1, 0, rfl, fun k hk => ?_⟩, by omega, hc.2.1⟩, h.ba, by have := h.la; omega⟩
  rw [Nat.zero_add, h.o1.cellAt k (by omega), List.getElem?_map, List.getElem?_append_left hk]
  simp [hk]
theorem GivAt.mapB {w : World} {a1 a2 a3 c1 c2 c3 : Nat} {g : Giv} (h : GivAt w a1 a2 a3 c1 c2 c3 g) : MapAt w (.slice (some ⟨a2, 0, none⟩) g.b.length c2) g.b := by
  have hc := own_cap h.o2
  refine ⟨⟨_, c2, rfl, fun hn => ⟨a2, 0, rfl, fun k hk => ?_⟩, by omega, hc.2.1⟩, h.bb, by have := h.lb; omega⟩
  rw [Nat.zero_add, h.o2.cellAt k (by omega), List.getElem?_map, List.getElem?_append_left hk]
  simp [hk]
theorem GivAt.boolsL {w : World} {a1 a2 a3 c1 c2 c3 : Nat} {g : Giv} (h : GivAt w a1 a2 a3 c1 c2 c3 g) : BoolsAt w (some ⟨a3, 0, none⟩) g.l.length (fun k => g.l.getD k false) := by
  intro hn
  refine ⟨a3, 0, rfl, fun k hk => ?_⟩
  rw [Nat.zero_add, h.o3.cellAt k (by omega), List.getElem?_map, List.getElem?_append_left hk]
  simp [hk]

theorem eight8 {w : World} {B : Nat} {c0 c1 c2 c3 c4 c5 c6 c7 : Value} (h : w.heap[B]? = some (.cells #[c0, c1, c2, c3, c4, c5, c6, c7] 31 (0, 0))) (u0 u1 u2 u3 u4 u5 u6 u7 : Value) :
    ((((((((w.setCell ⟨B, 0, none⟩ u0).setCell ⟨B, 1, none⟩ u1).setCell ⟨B, 2, none⟩ u2).setCell ⟨B, 3, none⟩ u3).setCell ⟨B, 4, none⟩ u4).setCell ⟨B, 5, none⟩ u5).setCell ⟨B, 6, none⟩ u6).setCell ⟨B, 7, none⟩ u7).heap[B]? = some (.cells #[u0, u1, u2, u3, u4, u5, u6, u7] 31 (0, 0)) := by
  have h0 := heap_setCell_same w B 0 _ 31 u0 h
  have h1 := heap_setCell_same _ B 1 _ 31 u1 h0
  have h2 := heap_setCell_same _ B 2 _ 31 u2 h1
  have h3 := heap_setCell_same _ B 3 _ 31 u3 h2
  have h4 := heap_setCell_same _ B 4 _ 31 u4 h3
  have h5 := heap_setCell_same _ B 5 _ 31 u5 h4
  have h6 := heap_setCell_same _ B 6 _ 31 u6 h5
  have h7 := heap_setCell_same _ B 7 _ 31 u7 h6
  simpa using h7
set_option maxRecDepth 100000 in
set_option maxHeartbeats 2000000 in
theorem op_any (a1 a2 a3 n1 n2 n3 c1 c2 c3 : Nat) (h1 : n1 + 9 ≤ c1) (h2 : n2 + 9 ≤ c2) (h3 : n3 + 9 ≤ c3) (b1 : c1 ≤ 9223372036854775807) (b2 : c2 ≤ 9223372036854775807) (b3 : c3 ≤ 9223372036854775807) (kind : Int) (ao bo lo : Option Addr) (na ca nb cb nl cl : Nat) (fr n k : Int) (on : Bool) (w : World) :
    Calls Tryd.prog 12 #[givV a1 a2 a3 (n1 + 9) (n2 + 9) (n3 + 9) c1 c2 c3, opV kind ao bo lo na ca nb cb nl cl fr n k on] w fun e w' => e = .returned (opV kind (some ⟨a1, 0, none⟩) (some ⟨a2, 0, none⟩) (some ⟨a3, 0, none⟩) n1 c1 n2 c2 n3 c3 fr n k on) ∧ Keeps w w' (fun _ => False) := by
  unfold givV opV
  go_enter Tryd.func12, Tryd.ntmps12
  go_wp2
  refine bodyPost_ret (v := .agg #[.int .i64 kind, .slice (some ⟨a1, 0, none⟩) n1 c1, .slice (some ⟨a2, 0, none⟩) n2 c2, .slice (some ⟨a3, 0, none⟩) n3 c3, .int .i64 fr, .int .i64 n, .int .i64 k, .bool on]) ?_ rfl ?_
  · simp [results, Tryd.f12, go_sem]
  · exact ⟨rfl, (((Keeps.refl _ _).alloc _).alloc _).alloc _⟩

set_option maxRecDepth 100000 in
set_option maxHeartbeats 2000000 in
theorem same_form (a1 a2 a3 c1 c2 c3 d1 d2 d3 e1 e2 e3 : Nat) (g : Giv) (w : World) (hG : GivAt w a1 a2 a3 c1 c2 c3 g) (hH : GivAt w d1 d2 d3 e1 e2 e3 g) :
    Calls Tryd.prog 14 #[givV a1 a2 a3 (g.a.length + 9) (g.b.length + 9) (g.l.length + 9) c1 c2 c3, givV d1 d2 d3 (g.a.length + 9) (g.b.length + 9) (g.l.length + 9) e1 e2 e3] w fun e w' => e = .returned (.bool true) ∧ Keeps w w' (fun _ => False) := by
  have hla := hG.la
  have hlb := hG.lb
  have hll := hG.ll
  have l1 : (g.a ++ marksB 9).length = g.a.length + 9 := by simp [marksB_length]
  have l2 : (g.b ++ marksB 9).length = g.b.length + 9 := by simp [marksB_length]
  have l3 : (g.l ++ marksO 9).length = g.l.length + 9 := by simp [marksO_length]
  have HX : Hid (∀ W, Keeps w W (fun _ => False) → Calls Tryd.prog 9 #[.agg #[.int .i64 0, .int .i64 0, .bool false, .slice (some ⟨a1, 0, none⟩) (g.a.length + 9) c1, .slice (some ⟨a3, 0, none⟩) (g.l.length + 9) c3, .slice none 0 0], .agg #[.int .i64 0, .int .i64 0, .bool false, .slice (some ⟨d1, 0, none⟩) (g.a.length + 9) e1, .slice (some ⟨d3, 0, none⟩) (g.l.length + 9) e3, .slice none 0 0]] W fun e w' => e = .returned (.bool true) ∧ Keeps W w' (fun _ => False)) := fun W k =>
    alike_all _ _ { err := 0, num := 0, yes := false, bytes := g.a ++ marksB 9, bools := g.l ++ marksO 9, nums := [] } 0 0 W ⟨by simp only; rw [l1]; omega, by simp only; rw [l3]; omega, by simp⟩
      ⟨_, _, _, rfl, by simp only; rw [l1]; exact own_kept hG.o1 k fun _ _ => id, by simp only; rw [l3]; exact own_kept hG.o3 k fun _ _ => id, World.ownsRow_nil W 0 3 1, fun _ _ => Nat.zero_le _⟩
      ⟨_, _, _, rfl, by simp only; rw [l1]; exact own_kept hH.o1 k fun _ _ => id, by simp only; rw [l3]; exact own_kept hH.o3 k fun _ _ => id, World.ownsRow_nil W 0 3 1, fun _ _ => Nat.zero_le _⟩
  have HY : Hid (∀ W, Keeps w W (fun _ => False) → Calls Tryd.prog 9 #[.agg #[.int .i64 0, .int .i64 0, .bool false, .slice (some ⟨a2, 0, none⟩) (g.b.length + 9) c2, .slice none 0 0, .slice none 0 0], .agg #[.int .i64 0, .int .i64 0, .bool false, .slice (some ⟨d2, 0, none⟩) (g.b.length + 9) e2, .slice none 0 0, .slice none 0 0]] W fun e w' => e = .returned (.bool true) ∧ Keeps W w' (fun _ => False)) := fun W k =>
    alike_all _ _ { err := 0, num := 0, yes := false, bytes := g.b ++ marksB 9, bools := [], nums := [] } 0 0 W ⟨by simp only; rw [l2]; omega, by simp, by simp⟩
      ⟨_, _, _, rfl, by simp only; rw [l2]; exact own_kept hG.o2 k fun _ _ => id, World.ownsRow_nil W 0 4 1, World.ownsRow_nil W 0 3 1, fun _ _ => Nat.zero_le _⟩
      ⟨_, _, _, rfl, by simp only; rw [l2]; exact own_kept hH.o2 k fun _ _ => id, World.ownsRow_nil W 0 4 1, World.ownsRow_nil W 0 3 1, fun _ _ => Nat.zero_le _⟩
  clear l1 l2 l3 hG hH
  unfold givV
  obtain ⟨W, hW⟩ : ∃ W, W = (w.alloc (.cells #[.slice (some ⟨a1, 0, none⟩) (g.a.length + 9) c1, .slice (some ⟨a2, 0, none⟩) (g.b.length + 9) c2, .slice (some ⟨a3, 0, none⟩) (g.l.length + 9) c3] 36)).alloc (.cells #[.slice (some ⟨d1, 0, none⟩) (g.a.length + 9) e1, .slice (some ⟨d2, 0, none⟩) (g.b.length + 9) e2, .slice (some ⟨d3, 0, none⟩) (g.l.length + 9) e3] 36) := ⟨_, rfl⟩
  have HK : Hid (Keeps w W (fun _ => False)) := by rw [hW]; exact ((Keeps.refl _ _).alloc _).alloc _
  have p1 : W.cell? ⟨w.heap.size, 1, none⟩ = some (.slice (some ⟨a2, 0, none⟩) (g.b.length + 9) c2) := by rw [hW]; simp
  have q1 : W.cell? ⟨w.heap.size + 1, 1, none⟩ = some (.slice (some ⟨d2, 0, none⟩) (g.b.length + 9) e2) := by rw [hW]; simp
  go_enter Tryd.func14, Tryd.ntmps14
  go_wp2_with fail
  go_at_call 9
  rw [← hW]
  refine (HX.out W HK.out).mono ?_
  rintro e w1 ⟨rfl, hk⟩
  have HK1 : Hid (Keeps w w1 (fun _ => False)) := HK.out.trans hk fun _ _ h => h
  have p1' := hk.cell' p1 id
  have q1' := hk.cell' q1 id
  clear hk p1 q1 hW HK
  go_wp2_with fail
  go_at_call 9
  refine (HY.out w1 HK1.out).mono ?_
  rintro e w2 ⟨rfl, hk⟩
  have HK2 : Hid (Keeps w w2 (fun _ => False)) := HK1.out.trans hk fun _ _ h => h
  clear hk
  go_wp2
  go_ret
  exact ⟨rfl, HK2.out⟩
end Go.Proofs.YteppfammimbmcaaDoor.Kit
