import Derived.Test.YteppfammimbmcaaDoorKA
namespace Go.Proofs.YteppfammimbmcaaDoor.Kit
open Go.RowKit Go.Deep
set_option linter.unusedVariables false

theorem own_set {w : World} {t g n c : Nat} {xs : List Value} (h : w.ownsRow 0 t 1 (.slice (some ⟨g, 0, none⟩) n c) n xs) (j : Nat) (hj : j < n) (u : Value) :
    (w.setCell ⟨g, j, none⟩ u).ownsRow 0 t 1 (.slice (some ⟨g, 0, none⟩) n c) n (xs.set j u) := by
  refine ⟨by simpa using h.1, ?_⟩
  rcases h.2 with ⟨e, _⟩ | ⟨g', cap, cur, e, hb', hgg, h1, h2, h3, h4⟩
  · simp at e
  · simp only [Value.slice.injEq, Option.some.injEq, Addr.mk.injEq, and_true, true_and] at e
    obtain ⟨rfl, rfl⟩ := e
    refine .inr ⟨g, c, cur.setIfInBounds j u, rfl, hb', heap_setCell_same w g j cur t u hgg, h1, h2, by simpa using h3, ?_⟩
    rw [Array.toList_setIfInBounds, List.take_set, h4]
theorem own_frozen {w : World} {t g n c : Nat} {xs : List Value} (h : w.ownsRow 0 t 1 (.slice (some ⟨g, 0, none⟩) n c) n xs) (j : Nat) : w.frozen? ⟨g, j, none⟩ = false := by
  rcases h.2 with ⟨e, _⟩ | ⟨g', cap, cur, e, hb', hgg, _⟩
  · simp at e
  · simp only [Value.slice.injEq, Option.some.injEq, Addr.mk.injEq, and_true, true_and] at e
    obtain ⟨rfl, rfl⟩ := e
    exact frozen_of_row w g j _ _ hgg
theorem own_other {w : World} {t g n c : Nat} {xs : List Value} (h : w.ownsRow 0 t 1 (.slice (some ⟨g, 0, none⟩) n c) n xs) {p : Addr} (hp : g ≠ p.block) (u : Value) : (w.setCell p u).ownsRow 0 t 1 (.slice (some ⟨g, 0, none⟩) n c) n xs :=
  own_kept h ((Keeps.refl w (fun k => k = p.block)).setCell (p := p) (fun _ => rfl) u) fun q hq e => by simp [Value.ownBlock] at hq; omega
theorem own_ne_type {w : World} {t t' g g' n n' c c' : Nat} {xs ys : List Value} (ht : t ≠ t') (h : w.ownsRow 0 t 1 (.slice (some ⟨g, 0, none⟩) n c) n xs) (h' : w.ownsRow 0 t' 1 (.slice (some ⟨g', 0, none⟩) n' c') n' ys) : g ≠ g' := by
  rcases h.2 with ⟨e, _⟩ | ⟨q, cap, cur, e, hb', hgg, _⟩
  · simp at e
  · simp only [Value.slice.injEq, Option.some.injEq, Addr.mk.injEq, and_true, true_and] at e
    obtain ⟨rfl, rfl⟩ := e
    intro e
    subst e
    exact row_ne ht hgg h' (by simp [Value.ownBlock])
/-- the first k elements turned -/
def tn {α : Type} (F : α → α) (z : α) (k : Nat) (l : List α) : List α := (List.range l.length).map fun i => if i < k then F (l.getD i z) else l.getD i z
theorem tn_length {α : Type} (F : α → α) (z : α) (k : Nat) (l : List α) : (tn F z k l).length = l.length := by simp [tn]
theorem tn_zero {α : Type} (F : α → α) (z : α) (l : List α) : tn F z 0 l = l := by
  apply List.ext_getElem?
  intro i
  by_cases h : i < l.length
  · simp [tn, h]
  · rw [List.getElem?_eq_none (by simp [tn]; omega), List.getElem?_eq_none (by omega)]
theorem tn_all {α : Type} (F : α → α) (z : α) (l : List α) : tn F z l.length l = l.map F := by
  apply List.ext_getElem?
  intro i
  by_cases h : i < l.length
  · simp [tn, h]
  · rw [List.getElem?_eq_none (by simp [tn]; omega), List.getElem?_eq_none (by simp; omega)]
theorem tn_set {α : Type} (F : α → α) (z : α) (k : Nat) (l m : List α) (C : α → Value) (h : k < l.length) : ((tn F z k l ++ m).map C).set k (C (F (l.getD k z))) = (tn F z (k + 1) l ++ m).map C := by
  apply List.ext_getElem?
  intro i
  rw [List.getElem?_set]
  by_cases e : k = i
  · subst e
    rw [if_pos rfl, if_pos (by simp [tn]; omega), List.getElem?_map, List.getElem?_append_left (by simp [tn]; omega)]
    simp [tn, h]
  · rw [if_neg e, List.getElem?_map, List.getElem?_map]
    by_cases hi : i < l.length
    · rw [List.getElem?_append_left (by simp [tn]; omega), List.getElem?_append_left (by simp [tn]; omega)]
      simp only [tn, List.getElem?_map, List.getElem?_range hi, Option.map_some]
      by_cases h2 : i < k
      · rw [if_pos h2, if_pos (by omega)]
      · rw [if_neg h2, if_neg (by omega)]
    · rw [List.getElem?_append_right (by simp [tn]; omega), List.getElem?_append_right (by simp [tn]; omega), tn_length, tn_length]
theorem tn_get {α : Type} (F : α → α) (z : α) (k : Nat) (l m : List α) (C : α → Value) (h : k < l.length) : ((tn F z k l ++ m).map C)[k]? = some (C (l.getD k z)) := by
  rw [List.getElem?_map, List.getElem?_append_left (by simp [tn]; omega)]
  simp [tn, h]
def FA1 (x : Nat) : Nat := 255 - x
def FB1 (x : Nat) : Nat := (255 - x) * 3 % 256
def turnG (g : Giv) : Giv := ⟨g.a.map FA1, g.b.map FB1, g.l.map not⟩
theorem fb_eq (x : Nat) (h : x < 256) : (((255 - x : Nat) : Int) * 3) % 256 = ((FB1 x : Nat) : Int) := by unfold FB1; omega

/-- the rows of a 'given' under way -/
structure Rows3 (w W wr : World) (a1 a2 a3 n1 n2 n3 c1 c2 c3 : Nat) (x1 x2 x3 : List Value) : Prop where
  o1 : wr.ownsRow 0 5 1 (.slice (some ⟨a1, 0, none⟩) (n1 + 9) c1) (n1 + 9) x1
  o2 : wr.ownsRow 0 5 1 (.slice (some ⟨a2, 0, none⟩) (n2 + 9) c2) (n2 + 9) x2
  o3 : wr.ownsRow 0 4 1 (.slice (some ⟨a3, 0, none⟩) (n3 + 9) c3) (n3 + 9) x3
  p0 : wr.cell? ⟨w.heap.size, 0, none⟩ = some (.slice (some ⟨a1, 0, none⟩) (n1 + 9) c1)
  p1 : wr.cell? ⟨w.heap.size, 1, none⟩ = some (.slice (some ⟨a2, 0, none⟩) (n2 + 9) c2)
  p2 : wr.cell? ⟨w.heap.size, 2, none⟩ = some (.slice (some ⟨a3, 0, none⟩) (n3 + 9) c3)
  keeps : Keeps W wr (fun k => k = a1 ∨ k = a2 ∨ k = a3)
theorem Rows3.drew {w W wr : World} {a1 a2 a3 n1 n2 n3 c1 c2 c3 : Nat} {x1 x2 x3 : List Value} (h : Rows3 w W wr a1 a2 a3 n1 n2 n3 c1 c2 c3 x1 x2 x3) : Rows3 w W wr.drew a1 a2 a3 n1 n2 n3 c1 c2 c3 x1 x2 x3 := ⟨h.o1, h.o2, h.o3, h.p0, h.p1, h.p2, h.keeps.drew⟩
theorem Rows3.set1 {w W wr : World} {a1 a2 a3 n1 n2 n3 c1 c2 c3 : Nat} {x1 x2 x3 : List Value} (h : Rows3 w W wr a1 a2 a3 n1 n2 n3 c1 c2 c3 x1 x2 x3) (h12 : a1 ≠ a2) (h13 : a1 ≠ a3) (hw : a1 < w.heap.size) (j : Nat) (hj : j < n1 + 9) (u : Value) : Rows3 w W (wr.setCell ⟨a1, j, none⟩ u) a1 a2 a3 n1 n2 n3 c1 c2 c3 (x1.set j u) x2 x3 :=
  ⟨own_set h.o1 j hj u, own_other h.o2 (Ne.symm h12) u, own_other h.o3 (Ne.symm h13) u,
   ((Keeps.refl wr (fun k => k = a1)).setCell (p := ⟨a1, j, none⟩) (fun _ => rfl) u).cell' h.p0 (by simp; omega), ((Keeps.refl wr (fun k => k = a1)).setCell (p := ⟨a1, j, none⟩) (fun _ => rfl) u).cell' h.p1 (by simp; omega), ((Keeps.refl wr (fun k => k = a1)).setCell (p := ⟨a1, j, none⟩) (fun _ => rfl) u).cell' h.p2 (by simp; omega),
   h.keeps.setCell (p := ⟨a1, j, none⟩) (fun _ => .inl rfl) u⟩
theorem Rows3.set2 {w W wr : World} {a1 a2 a3 n1 n2 n3 c1 c2 c3 : Nat} {x1 x2 x3 : List Value} (h : Rows3 w W wr a1 a2 a3 n1 n2 n3 c1 c2 c3 x1 x2 x3) (h12 : a1 ≠ a2) (h23 : a2 ≠ a3) (hw : a2 < w.heap.size) (j : Nat) (hj : j < n2 + 9) (u : Value) : Rows3 w W (wr.setCell ⟨a2, j, none⟩ u) a1 a2 a3 n1 n2 n3 c1 c2 c3 x1 (x2.set j u) x3 :=
  ⟨own_other h.o1 h12 u, own_set h.o2 j hj u, own_other h.o3 (Ne.symm h23) u,
   ((Keeps.refl wr (fun k => k = a2)).setCell (p := ⟨a2, j, none⟩) (fun _ => rfl) u).cell' h.p0 (by simp; omega), ((Keeps.refl wr (fun k => k = a2)).setCell (p := ⟨a2, j, none⟩) (fun _ => rfl) u).cell' h.p1 (by simp; omega), ((Keeps.refl wr (fun k => k = a2)).setCell (p := ⟨a2, j, none⟩) (fun _ => rfl) u).cell' h.p2 (by simp; omega),
   h.keeps.setCell (p := ⟨a2, j, none⟩) (fun _ => .inr (.inl rfl)) u⟩
theorem Rows3.set3 {w W wr : World} {a1 a2 a3 n1 n2 n3 c1 c2 c3 : Nat} {x1 x2 x3 : List Value} (h : Rows3 w W wr a1 a2 a3 n1 n2 n3 c1 c2 c3 x1 x2 x3) (h13 : a1 ≠ a3) (h23 : a2 ≠ a3) (hw : a3 < w.heap.size) (j : Nat) (hj : j < n3 + 9) (u : Value) : Rows3 w W (wr.setCell ⟨a3, j, none⟩ u) a1 a2 a3 n1 n2 n3 c1 c2 c3 x1 x2 (x3.set j u) :=
  ⟨own_other h.o1 h13 u, own_other h.o2 h23 u, own_set h.o3 j hj u,
   ((Keeps.refl wr (fun k => k = a3)).setCell (p := ⟨a3, j, none⟩) (fun _ => rfl) u).cell' h.p0 (by simp; omega), ((Keeps.refl wr (fun k => k = a3)).setCell (p := ⟨a3, j, none⟩) (fun _ => rfl) u).cell' h.p1 (by simp; omega), ((Keeps.refl wr (fun k => k = a3)).setCell (p := ⟨a3, j, none⟩) (fun _ => rfl) u).cell' h.p2 (by simp; omega),
   h.keeps.setCell (p := ⟨a3, j, none⟩) (fun _ => .inr (.inr rfl)) u⟩

set_option maxRecDepth 100000 in
set_option maxHeartbeats 4000000 in
theorem turned_form (a1 a2 a3 n1 n2 n3 c1 c2 c3 : Nat) (la lb : List Nat) (ll : List Bool) (w : World) (l1 : la.length = n1) (l2 : lb.length = n2) (l3 : ll.length = n3) (b1 : n1 ≤ 9000000) (b2 : n2 ≤ 9000000) (b3 : n3 ≤ 90000000) (ha : Bytes la) (hb : Bytes lb) (h12 : a1 ≠ a2) (h13 : a1 ≠ a3) (h23 : a2 ≠ a3) (w1 : a1 < w.heap.size) (w2 : a2 < w.heap.size) (w3 : a3 < w.heap.size)
    (o1 : w.ownsRow 0 5 1 (.slice (some ⟨a1, 0, none⟩) (n1 + 9) c1) (n1 + 9) (cellsB (la ++ marksB 9))) (o2 : w.ownsRow 0 5 1 (.slice (some ⟨a2, 0, none⟩) (n2 + 9) c2) (n2 + 9) (cellsB (lb ++ marksB 9))) (o3 : w.ownsRow 0 4 1 (.slice (some ⟨a3, 0, none⟩) (n3 + 9) c3) (n3 + 9) (cellsO (ll ++ marksO 9))) :
    Calls Tryd.prog 15 #[givV a1 a2 a3 (n1 + 9) (n2 + 9) (n3 + 9) c1 c2 c3] w fun e w' => (∃ v, e = .returned v) ∧ ∃ W, Keeps w W (fun _ => False) ∧ Rows3 w W w' a1 a2 a3 n1 n2 n3 c1 c2 c3 (cellsB (la.map FA1 ++ marksB 9)) (cellsB (lb.map FB1 ++ marksB 9)) (cellsO (ll.map not ++ marksO 9)) := by
  have hs0 : ¬ IntKind.u8.signed = true := by decide
  have q1 := (own_cap o1).1
  have q2 := (own_cap o2).1
  have q3 := (own_cap o3).1
  obtain ⟨W, hW⟩ : ∃ W, W = w.alloc (.cells #[.slice (some ⟨a1, 0, none⟩) (n1 + 9) c1, .slice (some ⟨a2, 0, none⟩) (n2 + 9) c2, .slice (some ⟨a3, 0, none⟩) (n3 + 9) c3] 36) := ⟨_, rfl⟩
  have HKW : Hid (Keeps w W (fun _ => False)) := by rw [hW]; exact (Keeps.refl _ _).alloc _
  have HR1 : Hid (Rows3 w W W a1 a2 a3 n1 n2 n3 c1 c2 c3 ((tn FA1 0 0 la ++ marksB 9).map fun x : Nat => .int .u8 x) (cellsB (lb ++ marksB 9)) (cellsO (ll ++ marksO 9))) := by
    refine ⟨by rw [tn_zero]; exact own_kept o1 HKW.out fun _ _ => id, own_kept o2 HKW.out fun _ _ => id, own_kept o3 HKW.out fun _ _ => id, ?_, ?_, ?_, Keeps.refl _ _⟩ <;> (rw [hW]; simp)
  clear o1 o2 o3
  unfold givV
  go_enter Tryd.func15, Tryd.ntmps15
  go_wp2
  rw [← hW]
  clear hW

  go_loopw [2] (fun i wr => ∃ k : Nat, k ≤ n1 ∧ i = .int .i64 k ∧ Hid (Rows3 w W wr a1 a2 a3 n1 n2 n3 c1 c2 c3 ((tn FA1 0 k la ++ marksB 9).map fun x : Nat => .int .u8 x) (cellsB (lb ++ marksB 9)) (cellsO (ll ++ marksO 9)))) (fun i _ => n1 - (intOf i).toNat)
  case atStart => exact ⟨0, Nat.zero_le _, rfl, HR1⟩
  case round =>
    clear HR1
    obtain ⟨k, hk, rfl, HR⟩ := hrel
    have p0 := HR.out.p0
    have p1 := HR.out.p1
    have p2 := HR.out.p2
    by_cases hlt : k < n1
    · have hx := (HR.out.o1).cellAt k (by omega)
      rw [tn_get FA1 0 k la (marksB 9) (fun x : Nat => Value.int .u8 (x : Int)) (by omega)] at hx
      have hfz := own_frozen HR.out.o1 k
      have hset := tn_set FA1 0 k la (marksB 9) (fun x : Nat => Value.int .u8 (x : Int)) (by omega)
      have hxl := ha.get k
      have e1 := not8 (la.getD k 0) hxl
      have HR' : Hid (Rows3 w W (wr.setCell ⟨a1, k, none⟩ (.int .u8 ((FA1 (la.getD k 0) : Nat) : Int))).drew a1 a2 a3 n1 n2 n3 c1 c2 c3 ((tn FA1 0 (k + 1) la ++ marksB 9).map fun x : Nat => .int .u8 x) (cellsB (lb ++ marksB 9)) (cellsO (ll ++ marksO 9))) := by
        have := (HR.out.set1 h12 h13 w1 k (by omega) (.int .u8 ((FA1 (la.getD k 0) : Nat) : Int))).drew
        rw [hset] at this
        exact this
      clear HR hset
      have HEQ : FA1 (la.getD k 0) = 255 - la.getD k 0 := rfl
      rw [HEQ] at HR'
      generalize la.getD k 0 = x at *
      go_wp2
      go_region
      go_wp2
      go_roundw
      case rel => exact ⟨k + 1, by omega, by go_num, HR'⟩
      case measure => simp [intOf]; omega
    · have hkn : k = n1 := by omega
      rw [hkn] at HR
      clear hkn
      have HR2 : Hid (Rows3 w W wr a1 a2 a3 n1 n2 n3 c1 c2 c3 (cellsB (la.map FA1 ++ marksB 9)) ((tn FB1 0 0 lb ++ marksB 9).map fun x : Nat => .int .u8 x) (cellsO (ll ++ marksO 9))) := by
        have := HR.out
        rw [← l1, tn_all] at this
        show Rows3 _ _ _ _ _ _ _ _ _ _ _ _ _ _ _
        rw [tn_zero, ← l1]
        exact this
      clear HR
      go_wp2
      go_loopw [3] (fun i wr => ∃ k : Nat, k ≤ n2 ∧ i = .int .i64 k ∧ Hid (Rows3 w W wr a1 a2 a3 n1 n2 n3 c1 c2 c3 (cellsB (la.map FA1 ++ marksB 9)) ((tn FB1 0 k lb ++ marksB 9).map fun x : Nat => .int .u8 x) (cellsO (ll ++ marksO 9)))) (fun i _ => n2 - (intOf i).toNat)
      case atStart => exact ⟨0, Nat.zero_le _, rfl, HR2⟩
      case round =>
        clear HR2
        obtain ⟨k, hk, rfl, HR⟩ := hrel
        have p0 := HR.out.p0
        have p1 := HR.out.p1
        have p2 := HR.out.p2
        by_cases hlt : k < n2
        · have hx := (HR.out.o2).cellAt k (by omega)
          rw [tn_get FB1 0 k lb (marksB 9) (fun x : Nat => Value.int .u8 (x : Int)) (by omega)] at hx
          have hfz := own_frozen HR.out.o2 k
          have hset := tn_set FB1 0 k lb (marksB 9) (fun x : Nat => Value.int .u8 (x : Int)) (by omega)
          have hxl := hb.get k
          have e1 := not8 (lb.getD k 0) hxl
          have e2 := fb_eq (lb.getD k 0) hxl
          have HR' : Hid (Rows3 w W (wr.setCell ⟨a2, k, none⟩ (.int .u8 ((FB1 (lb.getD k 0) : Nat) : Int))).drew a1 a2 a3 n1 n2 n3 c1 c2 c3 (cellsB (la.map FA1 ++ marksB 9)) ((tn FB1 0 (k + 1) lb ++ marksB 9).map fun x : Nat => .int .u8 x) (cellsO (ll ++ marksO 9))) := by
            have := (HR.out.set2 h12 h23 w2 k (by omega) (.int .u8 ((FB1 (lb.getD k 0) : Nat) : Int))).drew
            rw [hset] at this
            exact this
          clear HR hset
          rw [← e2] at HR'
          generalize lb.getD k 0 = x at *
          clear e2
          go_wp2
          go_region
          go_wp2
          go_roundw
          case rel => exact ⟨k + 1, by omega, by go_num, HR'⟩
          case measure => simp [intOf]; omega
        · have hkn : k = n2 := by omega
          rw [hkn] at HR
          clear hkn
          have HR3 : Hid (Rows3 w W wr a1 a2 a3 n1 n2 n3 c1 c2 c3 (cellsB (la.map FA1 ++ marksB 9)) (cellsB (lb.map FB1 ++ marksB 9)) ((tn not false 0 ll ++ marksO 9).map Value.bool)) := by
            have := HR.out
            rw [← l2, tn_all] at this
            show Rows3 _ _ _ _ _ _ _ _ _ _ _ _ _ _ _
            rw [tn_zero, ← l2]
            exact this
          clear HR
          go_wp2
          go_loopw [4] (fun i wr => ∃ k : Nat, k ≤ n3 ∧ i = .int .i64 k ∧ Hid (Rows3 w W wr a1 a2 a3 n1 n2 n3 c1 c2 c3 (cellsB (la.map FA1 ++ marksB 9)) (cellsB (lb.map FB1 ++ marksB 9)) ((tn not false k ll ++ marksO 9).map Value.bool))) (fun i _ => n3 - (intOf i).toNat)
          case atStart => exact ⟨0, Nat.zero_le _, rfl, HR3⟩
          case round =>
            clear HR3
            obtain ⟨k, hk, rfl, HR⟩ := hrel
            have p0 := HR.out.p0
            have p1 := HR.out.p1
            have p2 := HR.out.p2
            by_cases hlt : k < n3
            · have hx := (HR.out.o3).cellAt k (by omega)
              rw [tn_get not false k ll (marksO 9) Value.bool (by omega)] at hx
              have hfz := own_frozen HR.out.o3 k
              have hset := tn_set not false k ll (marksO 9) Value.bool (by omega)

              have HR' : Hid (Rows3 w W (wr.setCell ⟨a3, k, none⟩ (.bool (!(ll.getD k false)))).drew a1 a2 a3 n1 n2 n3 c1 c2 c3 (cellsB (la.map FA1 ++ marksB 9)) (cellsB (lb.map FB1 ++ marksB 9)) ((tn not false (k + 1) ll ++ marksO 9).map Value.bool)) := by
                have := (HR.out.set3 h13 h23 w3 k (by omega) (.bool (!(ll.getD k false)))).drew
                rw [hset] at this
                exact this
              clear HR hset
              generalize ll.getD k false = x at *
              go_wp2
              go_region
              go_wp2
              go_roundw
              case rel => exact ⟨k + 1, by omega, by go_num, HR'⟩
              case measure => simp [intOf]; omega
            · have hkn : k = n3 := by omega
              rw [hkn] at HR
              clear hkn
              have HF : Hid (Rows3 w W wr a1 a2 a3 n1 n2 n3 c1 c2 c3 (cellsB (la.map FA1 ++ marksB 9)) (cellsB (lb.map FB1 ++ marksB 9)) (cellsO (ll.map not ++ marksO 9))) := by
                have := HR.out
                rw [← l3, tn_all] at this
                show Rows3 _ _ _ _ _ _ _ _ _ _ _ _ _ _ _
                rw [← l3]
                exact this
              clear HR
              go_wp2
              go_end0
              exact ⟨⟨_, rfl⟩, W, HKW.out, HF.out⟩
end Go.Proofs.YteppfammimbmcaaDoor.Kit
