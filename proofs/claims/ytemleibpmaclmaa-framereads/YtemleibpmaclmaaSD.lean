import Derived.Test.YtemleibpmaclmaaSC
import Derived.Deep.MidRow
namespace Go.Proofs.Ytemleibpmaclmaa.Kit
open Go.RowKit Go.Shelf Go.Deep
set_option linter.unusedVariables false
attribute [local go_sem] run_store_func

/-! ### a value of several cells is stored -/
theorem run_storeVar_row' (w : World) (b : Nat) (ty : TypeId) (cells cur : Array Value) (T : Nat) (hb : w.heap[b]? = some (.cells cur T (0, 0))) (hsz : cells.size ≤ cur.size) (hi : (Try.prog.info? ty).map (·.size) = some cells.size) (h1 : ∀ v ∈ cells.toList, v.oneCell' = true) :
    (storeVar ty ⟨b, 0, none⟩ (.agg cells)).run Try.prog w = .ok () (w.setRow b (cells.toList ++ cur.toList.drop cells.size).toArray) := by
  have hst := run_storeCells_at Try.prog b 0 T cells.toList 0 cur w hb (by simpa using hsz) h1
  simp only [Nat.add_zero, List.take_zero, List.nil_append, Nat.zero_add, Array.length_toList] at hst
  cases hq : Try.prog.info? ty with
  | none => simp [hq] at hi
  | some i =>
    have hs : cells.size = i.size := by simp [hq] at hi; omega
    simp [storeVar, sizeOf, typeInfo, hq, Value.cells, hs, hst]
theorem wp_store_row {op : Oper} {a : Act} {w : World} {K : Act → World → Prop} {Q : Exit → Act → World → Prop} (ty : TypeId) (x y : Operand) (ho : op.op = .store ty x y)
    (b : Nat) (cells : Array Value) {cur : Array Value} {T : Nat} (hb : w.heap[b]? = some (.cells cur T (0, 0))) (hx : a.eval x = .pointer (some ⟨b, 0, none⟩)) (hy : a.eval y = .agg cells)
    (hsz : cells.size ≤ cur.size) (hi : (Try.prog.info? ty).map (·.size) = some cells.size) (h1 : ∀ v ∈ cells.toList, v.oneCell' = true)
    (h : K (a.put op.dst undef) (w.setRow b (cells.toList ++ cur.toList.drop cells.size).toArray)) : op.wp Try.prog a w K Q := by
  unfold Oper.wp execOp
  simp only [ho, hx, hy, Instr.storeAt, Instr.sureAddr, Sem.run_bind, Sem.run_pure, Result.andThen_ok, run_storeVar_row' w b ty cells cur T hb hsz hi h1]
  exact h
theorem wpList_store_row {ops : Array Oper} {rest : List Oper} {op : Oper} {a : Act} {w : World} {Q : Exit → Act → World → Prop} (hgd : op.guard = none) (ty : TypeId) (x y : Operand) (ho : op.op = .store ty x y)
    (b : Nat) (cells : Array Value) {cur : Array Value} {T : Nat} (hb : w.heap[b]? = some (.cells cur T (0, 0))) (hx : a.eval x = .pointer (some ⟨b, 0, none⟩)) (hy : a.eval y = .agg cells)
    (hsz : cells.size ≤ cur.size) (hi : (Try.prog.info? ty).map (·.size) = some cells.size) (h1 : ∀ v ∈ cells.toList, v.oneCell' = true)
    (h : wpList Try.prog ops Q rest (a.put op.dst undef) (w.setRow b (cells.toList ++ cur.toList.drop cells.size).toArray)) : wpList Try.prog ops Q (op :: rest) a w :=
  wpList_plain hgd fun _ hK => wp_store_row ty x y ho b cells hb hx hy hsz hi h1 (hK _ _ h)
theorem keeps_setRow (w : World) (p : Nat) (row : Array Value) : Keeps w (w.drew.setRow p row) (fun g => g = p) :=
  ⟨rfl, rfl, rfl, by simp, fun k hk hn => setRow_other w.drew p k row hn⟩
/-! ### begin -/
def beginCells (s : Sc) (st : Nat) (wo : Option Addr) (wc : Nat) : List Value :=
  [.int .i64 (s.lm : Int), .int .i64 (s.lb : Int), .int .i64 (st : Int), .int .i64 0, .slice none 0 0, .int .i64 0, .int .i64 0, .int .u32 2166136261, .slice none 0 0, .slice none 0 0, .slice wo s.ms.length wc, .int .i64 0]
def nil3 (R : Nat → Row) (i : Nat) : Row := if i < 3 then (none, 0, 0) else R i
theorem begin_row (s : Sc) (st i : Nat) (h : ¬ i < 3) : (beginF s st).row i = s.row i := by
  have h0 : ¬ i = 0 := by omega
  have h1 : ¬ i = 1 := by omega
  have h2 : ¬ i = 2 := by omega
  unfold Sc.row
  simp only [h0, h1, h2, if_false]
  rfl
theorem begin_sub {p n : Nat} {R : Nat → Row} {wo : Option Addr} {wc g : Nat} (h : RIs p n (nil3 R) wo wc g) : RIs p n R wo wc g := by
  rcases h with h | h | ⟨i, hi, h⟩
  · exact .inl h
  · exact .inr (.inl h)
  · unfold nil3 at h
    by_cases c : i < 3
    · rw [if_pos c] at h; simp [rv, Value.ownBlock] at h
    · rw [if_neg c] at h; exact .inr (.inr ⟨i, hi, h⟩)
theorem wCells_nil3 (R : Nat → Row) (n : Nat) : wCells (nil3 R) n = wCells R n := by
  unfold wCells nil3
  congr 1
  funext i
  rw [if_neg (by omega), if_neg (by omega)]
/-- what begin needs of a scan -/
structure Rb (w W : World) (p T : Nat) (tl : List Value) (s : Sc) (R : Nat → Row) (wo : Option Addr) (wc : Nat) : Prop where
  gr : Gr w W
  pnew : w.heap.size ≤ p
  ty : T = 73 ∨ T = 76
  box : W.heap[p]? = some (.cells (scCells s R wo wc ++ tl).toArray T (0, 0))
  rows : ∀ i, 3 ≤ i → i < 3 + 2 * s.ms.length → W.ownsRow 0 5 1 (rv (R i)) (R i).2.1 (bv (s.row i))
  rnew : ∀ i, 3 ≤ i → i < 3 + 2 * s.ms.length → ∀ g, (rv (R i)).ownBlock = some g → w.heap.size ≤ g
  apart : ∀ i j g, 3 ≤ i → 3 ≤ j → i < 3 + 2 * s.ms.length → j < 3 + 2 * s.ms.length → i ≠ j → (rv (R i)).ownBlock = some g → (rv (R j)).ownBlock ≠ some g
  wown : OffRow W 24 2 wo s.ms.length wc (wCells R s.ms.length)
  wnew : ∀ g, (Value.slice wo s.ms.length wc).ownBlock = some g → w.heap.size ≤ g
theorem Rd.rb {w W : World} {p T : Nat} {tl : List Value} {s : Sc} {R : Nat → Row} {wo : Option Addr} {wc : Nat} (h : Rd w W p T tl s R wo wc) : Rb w W p T tl s R wo wc :=
  ⟨h.gr, h.pnew, h.ty, h.box, fun i _ hi => h.rows i hi, fun i _ hi => h.rnew i hi, fun i j g _ _ hi hj => h.apart i j g hi hj, h.wown, h.wnew⟩
theorem Rb.cells {w W : World} {p T : Nat} {tl : List Value} {s : Sc} {R : Nat → Row} {wo : Option Addr} {wc : Nat} (h : Rb w W p T tl s R wo wc) {j : Nat} {v : Value} (hj : (scCells s R wo wc ++ tl)[j]? = some v) : W.cell? ⟨p, j, none⟩ = some v := by
  simp only [World.cell?, h.box]
  simpa using hj
theorem Rb.begun {w W V : World} {p T : Nat} {tl : List Value} {s : Sc} {R : Nat → Row} {wo : Option Addr} {wc st : Nat} (h : Rb w W p T tl s R wo wc) (hb : V.heap[p]? = some (.cells (beginCells s st wo wc ++ tl).toArray T (0, 0))) (k : Keeps W V (fun g => g = p)) :
    Rd w V p T tl { beginF s st with left := 0 } (nil3 R) wo wc := by
  have tp : Typ W p T := ⟨_, _, h.box⟩
  have n5 : T ≠ 5 ∧ T ≠ 24 := by rcases h.ty with rfl | rfl <;> decide
  have wsz := h.gr.size
  refine ⟨h.gr.trans k (fun j hj e => by have := h.pnew; omega), h.pnew, h.ty, hb, fun i hi => ?_, fun i hi g e => ?_, fun i j g hi hj hij e q => ?_, ?_, h.wnew⟩
  · by_cases c : i < 3
    · have e : (({ beginF s st with left := 0 } : Sc).row i) = [] := by
        have : i = 0 ∨ i = 1 ∨ i = 2 := by omega
        rcases this with rfl | rfl | rfl <;> rfl
      rw [e]
      unfold nil3
      rw [if_pos c]
      exact World.ownsRow_nil _ _ _ _
    · have e : (({ beginF s st with left := 0 } : Sc).row i) = s.row i := begin_row s st i c
      rw [e]
      unfold nil3
      rw [if_neg c]
      exact own_kp (h.rows i (by omega) hi) fun g q => k.block g (own_lt (h.rows i (by omega) hi) g q) (fun z => n5.1 (by subst z; exact tp.ne (own_typ (h.rows i (by omega) hi) q)))
  · unfold nil3 at e
    by_cases c : i < 3
    · rw [if_pos c] at e; simp [rv, Value.ownBlock] at e
    · rw [if_neg c] at e; exact h.rnew i (by omega) hi g e
  · unfold nil3 at e q
    by_cases c : i < 3
    · rw [if_pos c] at e; simp [rv, Value.ownBlock] at e
    · by_cases d : j < 3
      · rw [if_pos d] at q; simp [rv, Value.ownBlock] at q
      · rw [if_neg c] at e; rw [if_neg d] at q; exact h.apart i j g (by omega) (by omega) hi hj hij e q
  · rw [wCells_nil3]
    exact h.wown.kp fun g q => k.block g (h.wown.lt q) (fun z => n5.2 (by subst z; exact tp.ne (h.wown.typ q)))
theorem Rd.set {w W : World} {p T j : Nat} {tl tl' : List Value} {s s' : Sc} {R : Nat → Row} {wo : Option Addr} {wc : Nat} {v : Value} (h : Rd w W p T tl s R wo wc) (hc : (scCells s R wo wc ++ tl).set j v = scCells s' R wo wc ++ tl') (hms : s'.ms = s.ms) (hrow : ∀ i, s'.row i = s.row i) :
    Rd w (W.setCell ⟨p, j, none⟩ v) p T tl' s' R wo wc := by
  have tp : Typ W p T := ⟨_, _, h.box⟩
  have n5 : T ≠ 5 ∧ T ≠ 24 := by rcases h.ty with rfl | rfl <;> decide
  have oth : ∀ g, g ≠ p → (W.setCell ⟨p, j, none⟩ v).heap[g]? = W.heap[g]? := fun g hg => heap_setCell_other W ⟨p, j, none⟩ g _ hg
  refine ⟨keeps_set h.gr h.pnew, h.pnew, h.ty, ?_, fun i hi => ?_, fun i hi => h.rnew i (by rw [← hms]; exact hi), fun i j g hi hj => h.apart i j g (by rw [← hms]; exact hi) (by rw [← hms]; exact hj), ?_, ?_⟩
  · rw [heap_setCell_same W p j _ T v h.box, ← hc]
    simp
  · rw [hms] at hi
    rw [hrow]
    exact own_kp (h.rows i hi) fun g q => oth g (fun z => n5.1 (by subst z; exact tp.ne (own_typ (h.rows i hi) q)))
  · rw [hms]
    exact h.wown.kp fun g q => oth g (fun z => n5.2 (by subst z; exact tp.ne (h.wown.typ q)))
  · rw [hms]; exact h.wnew
set_option maxRecDepth 100000 in
set_option maxHeartbeats 4000000 in
theorem begin76 {w W : World} {p : Nat} {x y : Value} {s : Sc} {R : Nat → Row} {wo : Option Addr} {wc st : Nat} (h : Rb w W p 76 [x, y] s R wo wc) (hst : st ≤ 9) :
    Calls Try.prog 49 #[.pointer (some ⟨p, 0, none⟩), .int .i64 (st : Int)] W fun e w' => e = .returned (.tuple #[]) ∧ RdDone w W w' p 76 [x, y] s.ms.length R wo wc (beginF s st) := by
  have HR := hidM h
  have hb : W.drew.heap[p]? = some (.cells #[.int .i64 (s.lm : Int), .int .i64 (s.lb : Int), .int .i64 (s.st : Int), .int .i64 (s.left : Int), rv (R 0), .int .i64 (s.me : Int), .int .i64 (s.bo : Int), .int .u32 (s.sum.toNat : Int), rv (R 1), rv (R 2), .slice wo s.ms.length wc, .int .i64 s.e, x, y] 76 (0, 0)) := h.box
  have c0 : W.cell? ⟨p, 0, none⟩ = some (.int .i64 (s.lm : Int)) := h.cells rfl
  have c1 : W.cell? ⟨p, 1, none⟩ = some (.int .i64 (s.lb : Int)) := h.cells rfl
  have c10 : W.cell? ⟨p, 10, none⟩ = some (.slice wo s.ms.length wc) := h.cells rfl
  have HIN : Hid (W.drew.cell? ⟨p, 0, none⟩ = some (.int .i64 (s.lm : Int)) ∧ W.drew.cell? ⟨p, 1, none⟩ = some (.int .i64 (s.lb : Int)) ∧ W.drew.cell? ⟨p, 10, none⟩ = some (.slice wo s.ms.length wc)) := ⟨c0, c1, c10⟩
  clear h
  go_enter Try.func49, Try.ntmps49
  go_wp2_with fail
  refine wp_region_held_drew (S := fun w' => w'.cell? ⟨p, 0, none⟩ = some (.int .i64 (s.lm : Int)) ∧ w'.cell? ⟨p, 1, none⟩ = some (.int .i64 (s.lb : Int)) ∧ w'.cell? ⟨p, 10, none⟩ = some (.slice wo s.ms.length wc)) (by kernel_rfl) (HIN.out) (fun hHeld => ?_)
  refine wpAnyH_take (i := 0) (oi := { dst := some 4, op := Op.move (Operand.tmp 0), type := 92, pos := "scan.go:46", after := #[], guard := none }) (v := ?v0a1) rfl (by kernel_rfl) (by kernel_rfl) (by kernel_rfl) (fun _ _ _ h => h) (Or.inl ⟨by rfl, ?y0a1⟩) (by assumption) ?r0a1
  case y0a1 => (intro w hSw; obtain ⟨s1, s2, s3⟩ := hSw; go_simp; (try with_reducible rfl))
  (try simp only [Act.put]); (try simp only [List.setIfInBounds_toArray]); (try simp only [List.set_cons_succ]); (try simp only [List.set_cons_zero])
  refine wpAnyH_take (i := 1) (oi := { dst := some 5, op := Op.move (Operand.tmp 0), type := 92, pos := "scan.go:46", after := #[], guard := none }) (v := ?v1a2) rfl (by kernel_rfl) (by kernel_rfl) (by kernel_rfl) (fun _ _ _ h => h) (Or.inl ⟨by rfl, ?y1a2⟩) (by assumption) ?r1a2
  case y1a2 => (intro w hSw; obtain ⟨s1, s2, s3⟩ := hSw; go_simp; (try with_reducible rfl))
  (try simp only [Act.put]); (try simp only [List.setIfInBounds_toArray]); (try simp only [List.set_cons_succ]); (try simp only [List.set_cons_zero])
  refine wpAnyH_take (i := 2) (oi := { dst := some 6, op := Op.nilCheck (Operand.tmp 5), type := 0, pos := "scan.go:46", after := #[{ on := 1, ground := Ground.data }], guard := none }) (v := ?v2a3) rfl (by kernel_rfl) (by kernel_rfl) (by kernel_rfl) (fun _ _ _ h => h) (Or.inl ⟨by rfl, ?y2a3⟩) (by assumption) ?r2a3
  case y2a3 => (intro w hSw; obtain ⟨s1, s2, s3⟩ := hSw; go_simp; (try with_reducible rfl))
  (try simp only [Act.put]); (try simp only [List.setIfInBounds_toArray]); (try simp only [List.set_cons_succ]); (try simp only [List.set_cons_zero])
  refine wpAnyH_take (i := 3) (oi := { dst := some 7, op := Op.fieldAddr 73 (Operand.tmp 6) 0, type := 0, pos := "scan.go:46", after := #[{ on := 2, ground := Ground.data }], guard := none }) (v := ?v3a4) rfl (by kernel_rfl) (by kernel_rfl) (by kernel_rfl) (fun _ _ _ h => h) (Or.inl ⟨by rfl, ?y3a4⟩) (by assumption) ?r3a4
  case y3a4 => (intro w hSw; obtain ⟨s1, s2, s3⟩ := hSw; go_simp; (try with_reducible rfl))
  (try simp only [Act.put]); (try simp only [List.setIfInBounds_toArray]); (try simp only [List.set_cons_succ]); (try simp only [List.set_cons_zero])
  refine wpAnyH_take (i := 4) (oi := { dst := some 8, op := Op.load 40 (Operand.tmp 7), type := 40, pos := "scan.go:46", after := #[{ on := 3, ground := Ground.data }], guard := none }) (v := ?v4a5) rfl (by kernel_rfl) (by kernel_rfl) (by kernel_rfl) (fun _ _ _ h => h) (Or.inl ⟨by rfl, ?y4a5⟩) (by assumption) ?r4a5
  case y4a5 => (intro w hSw; obtain ⟨s1, s2, s3⟩ := hSw; go_simp; (try with_reducible rfl))
  (try simp only [Act.put]); (try simp only [List.setIfInBounds_toArray]); (try simp only [List.set_cons_succ]); (try simp only [List.set_cons_zero])
  refine wpAnyH_take (i := 5) (oi := { dst := some 9, op := Op.move (Operand.tmp 1), type := 3, pos := "scan.go:46", after := #[], guard := none }) (v := ?v5a6) rfl (by kernel_rfl) (by kernel_rfl) (by kernel_rfl) (fun _ _ _ h => h) (Or.inl ⟨by rfl, ?y5a6⟩) (by assumption) ?r5a6
  case y5a6 => (intro w hSw; obtain ⟨s1, s2, s3⟩ := hSw; go_simp; (try with_reducible rfl))
  (try simp only [Act.put]); (try simp only [List.setIfInBounds_toArray]); (try simp only [List.set_cons_succ]); (try simp only [List.set_cons_zero])
  refine wpAnyH_take (i := 6) (oi := { dst := some 10, op := Op.move (Operand.tmp 0), type := 92, pos := "scan.go:46", after := #[], guard := none }) (v := ?v6a7) rfl (by kernel_rfl) (by kernel_rfl) (by kernel_rfl) (fun _ _ _ h => h) (Or.inl ⟨by rfl, ?y6a7⟩) (by assumption) ?r6a7
  case y6a7 => (intro w hSw; obtain ⟨s1, s2, s3⟩ := hSw; go_simp; (try with_reducible rfl))
  (try simp only [Act.put]); (try simp only [List.setIfInBounds_toArray]); (try simp only [List.set_cons_succ]); (try simp only [List.set_cons_zero])
  refine wpAnyH_take (i := 7) (oi := { dst := some 11, op := Op.nilCheck (Operand.tmp 10), type := 0, pos := "scan.go:46", after := #[{ on := 6, ground := Ground.data }], guard := none }) (v := ?v7a8) rfl (by kernel_rfl) (by kernel_rfl) (by kernel_rfl) (fun _ _ _ h => h) (Or.inl ⟨by rfl, ?y7a8⟩) (by assumption) ?r7a8
  case y7a8 => (intro w hSw; obtain ⟨s1, s2, s3⟩ := hSw; go_simp; (try with_reducible rfl))
  (try simp only [Act.put]); (try simp only [List.setIfInBounds_toArray]); (try simp only [List.set_cons_succ]); (try simp only [List.set_cons_zero])
  refine wpAnyH_take (i := 8) (oi := { dst := some 12, op := Op.fieldAddr 73 (Operand.tmp 11) 8, type := 0, pos := "scan.go:46", after := #[{ on := 7, ground := Ground.data }], guard := none }) (v := ?v8a9) rfl (by kernel_rfl) (by kernel_rfl) (by kernel_rfl) (fun _ _ _ h => h) (Or.inl ⟨by rfl, ?y8a9⟩) (by assumption) ?r8a9
  case y8a9 => (intro w hSw; obtain ⟨s1, s2, s3⟩ := hSw; go_simp; (try with_reducible rfl))
  (try simp only [Act.put]); (try simp only [List.setIfInBounds_toArray]); (try simp only [List.set_cons_succ]); (try simp only [List.set_cons_zero])
  refine wpAnyH_take (i := 9) (oi := { dst := some 13, op := Op.load 58 (Operand.tmp 12), type := 58, pos := "scan.go:46", after := #[{ on := 8, ground := Ground.data }], guard := none }) (v := ?v9a10) rfl (by kernel_rfl) (by kernel_rfl) (by kernel_rfl) (fun _ _ _ h => h) (Or.inl ⟨by rfl, ?y9a10⟩) (by assumption) ?r9a10
  case y9a10 => (intro w hSw; obtain ⟨s1, s2, s3⟩ := hSw; go_simp; (try with_reducible rfl))
  (try simp only [Act.put]); (try simp only [List.setIfInBounds_toArray]); (try simp only [List.set_cons_succ]); (try simp only [List.set_cons_zero])
  refine wpAnyH_take (i := 10) (oi := { dst := some 14, op := Op.build 73 #[(0, Operand.tmp 8), (1, Operand.tmp 9), (8, Operand.tmp 13), (6, Operand.const (Value.int IntKind.u32 2166136261))], type := 73, pos := "scan.go:46", after := #[{ on := 4, ground := Ground.data }, { on := 5, ground := Ground.data }, { on := 9, ground := Ground.data }], guard := none }) (v := ?v10a11) rfl (by kernel_rfl) (by kernel_rfl) (by kernel_rfl) (fun _ _ _ h => h) (Or.inl ⟨by rfl, ?y10a11⟩) (by assumption) ?r10a11
  case y10a11 => (intro w hSw; obtain ⟨s1, s2, s3⟩ := hSw; go_simp; (try with_reducible rfl))
  (try simp only [Act.put]); (try simp only [List.setIfInBounds_toArray]); (try simp only [List.set_cons_succ]); (try simp only [List.set_cons_zero])
  refine wpAnyH_take (i := 11) (oi := { dst := some 15, op := Op.nilCheck (Operand.tmp 4), type := 0, pos := "scan.go:46", after := #[{ on := 0, ground := Ground.data }, { on := 0, ground := Ground.phase }, { on := 1, ground := Ground.phase }, { on := 2, ground := Ground.phase }, { on := 3, ground := Ground.phase }, { on := 4, ground := Ground.phase }, { on := 5, ground := Ground.phase }, { on := 6, ground := Ground.phase }, { on := 7, ground := Ground.phase }, { on := 8, ground := Ground.phase }, { on := 9, ground := Ground.phase }, { on := 10, ground := Ground.phase }], guard := none }) (v := ?v11a12) rfl (by kernel_rfl) (by kernel_rfl) (by kernel_rfl) (fun _ _ _ h => h) (Or.inl ⟨by rfl, ?y11a12⟩) (by assumption) ?r11a12
  case y11a12 => (intro w hSw; obtain ⟨s1, s2, s3⟩ := hSw; go_simp; (try with_reducible rfl))
  (try simp only [Act.put]); (try simp only [List.setIfInBounds_toArray]); (try simp only [List.set_cons_succ]); (try simp only [List.set_cons_zero])
  refine wpAnyH_ready (rs := [12]) (by kernel_rfl) (by simp) ?_
  refine AllReadyH.cons (o := { dst := none, op := Op.store 73 (Operand.tmp 15) (Operand.tmp 14), type := 0, pos := "scan.go:46", after := #[{ on := 11, ground := Ground.data }, { on := 10, ground := Ground.data }, { on := 0, ground := Ground.phase }, { on := 1, ground := Ground.phase }, { on := 2, ground := Ground.phase }, { on := 3, ground := Ground.phase }, { on := 4, ground := Ground.phase }, { on := 5, ground := Ground.phase }, { on := 6, ground := Ground.phase }, { on := 7, ground := Ground.phase }, { on := 8, ground := Ground.phase }, { on := 9, ground := Ground.phase }, { on := 10, ground := Ground.phase }], guard := none }) rfl (fun Kc hK => ?_) AllReadyH.nil
  refine wp_store_row 73 (.tmp 15) (.tmp 14) rfl p (beginCells s st wo wc).toArray hb (by rfl) (by rfl) (by simp [beginCells]) (by kernel_rfl) (by simp [beginCells, Value.oneCell']) ?_
  obtain ⟨V1, hV1⟩ : ∃ V1, V1 = W.drew.setRow p ((beginCells s st wo wc).toArray.toList ++ (#[.int .i64 (s.lm : Int), .int .i64 (s.lb : Int), .int .i64 (s.st : Int), .int .i64 (s.left : Int), rv (R 0), .int .i64 (s.me : Int), .int .i64 (s.bo : Int), .int .u32 (s.sum.toNat : Int), rv (R 1), rv (R 2), .slice wo s.ms.length wc, .int .i64 s.e, x, y] : Array Value).toList.drop (beginCells s st wo wc).toArray.size).toArray := ⟨_, rfl⟩
  rw [← hV1]
  have hb1 : V1.heap[p]? = some (.cells (beginCells s st wo wc ++ [x, y]).toArray 76 (0, 0)) := by rw [hV1]; exact setRow_heap W.drew p _ _ 76 (0, 0) hb
  have hk1 : Keeps W V1 (fun g => g = p) := by rw [hV1]; exact keeps_setRow W p _
  have hR1 := HR.out.begun (st := st) hb1 hk1
  have HK := hidM hk1
  have H1 := hidM hR1
  clear hV1 hk1
  have e0 : V1.cell? ⟨p, 0, none⟩ = some (.int .i64 (s.lm : Int)) := hR1.cells rfl
  have e1 : V1.cell? ⟨p, 1, none⟩ = some (.int .i64 (s.lb : Int)) := hR1.cells rfl
  have e10 : V1.cell? ⟨p, 10, none⟩ = some (.slice wo s.ms.length wc) := hR1.cells rfl
  refine hK.out _ _ ⟨e0, e1, e10⟩ (fun hHeld => ?_)
  clear hK Kc
  (try simp only [Act.put]); (try simp only [List.setIfInBounds_toArray]); (try simp only [List.set_cons_succ]); (try simp only [List.set_cons_zero])
  refine wpAnyH_done (by kernel_rfl) ?_ _
  clear c0 c1 c10 HIN hb hb1 e0 e1 e10
  have c5 : V1.cell? ⟨p, 5, none⟩ = some (.int .i64 ((0 : Nat) : Int)) := hR1.cells rfl
  have c6 : V1.cell? ⟨p, 6, none⟩ = some (.int .i64 ((0 : Nat) : Int)) := hR1.cells rfl
  have HWn := hidM (wants_any (p := p) (me := 0) (bo := 0) (st := st) hst (by omega) (by omega) c5 c6)
  clear c5 c6 hR1
  go_wp2_with (go_at_call 59; refine Hid.out ?_)
  unfold Hid
  refine Calls.mono HWn.out ?_
  rintro e V2 ⟨rfl, g2⟩
  have hR2 := H1.out.grow g2
  obtain ⟨lf, hlf⟩ : ∃ lf : Nat, lf = wantsF 0 0 st := ⟨_, rfl⟩
  have hR3 := hR2.set (j := 3) (v := .int .i64 (lf : Int)) (s' := beginF s st) (tl' := [x, y]) (by rw [hlf]; rfl) rfl (fun _ => rfl)
  have t3 : V2.cell? ⟨p, 3, none⟩ = some (.int .i64 ((0 : Nat) : Int)) := hR2.cells rfl
  have f3 : V2.frozen? ⟨p, 3, none⟩ = false := frz hR2.box 3
  have HFin : Hid (RdDone w W (V2.setCell ⟨p, 3, none⟩ (.int .i64 (lf : Int))) p 76 [x, y] s.ms.length R wo wc (beginF s st)) := by
    refine ⟨_, _, _, hR3, ?_, fun g e => .inl (begin_sub e)⟩
    exact Keeps.setCell (S := RIs p s.ms.length R wo wc) (p := ⟨p, 3, none⟩) ((HK.out.mono fun g _ e => .inl e).trans (g2.mono fun _ _ f => f.elim) (fun _ _ e => e)) (fun _ => .inl rfl) _
  rw [← hlf]
  clear hR2 hR3 hlf g2 HWn H1 HK
  go_wp2_with fail
  refine bodyPost_end (v := .tuple #[]) ?_ rfl ⟨rfl, HFin.out⟩
  simp [results, Try.f49, go_sem]
set_option maxRecDepth 100000 in
set_option maxHeartbeats 4000000 in
theorem begin73 {w W : World} {p : Nat} {s : Sc} {R : Nat → Row} {wo : Option Addr} {wc st : Nat} (h : Rb w W p 73 [] s R wo wc) (hst : st ≤ 9) :
    Calls Try.prog 49 #[.pointer (some ⟨p, 0, none⟩), .int .i64 (st : Int)] W fun e w' => e = .returned (.tuple #[]) ∧ RdDone w W w' p 73 [] s.ms.length R wo wc (beginF s st) := by
  have HR := hidM h
  have hb : W.drew.heap[p]? = some (.cells #[.int .i64 (s.lm : Int), .int .i64 (s.lb : Int), .int .i64 (s.st : Int), .int .i64 (s.left : Int), rv (R 0), .int .i64 (s.me : Int), .int .i64 (s.bo : Int), .int .u32 (s.sum.toNat : Int), rv (R 1), rv (R 2), .slice wo s.ms.length wc, .int .i64 s.e] 73 (0, 0)) := h.box
  have c0 : W.cell? ⟨p, 0, none⟩ = some (.int .i64 (s.lm : Int)) := h.cells rfl
  have c1 : W.cell? ⟨p, 1, none⟩ = some (.int .i64 (s.lb : Int)) := h.cells rfl
  have c10 : W.cell? ⟨p, 10, none⟩ = some (.slice wo s.ms.length wc) := h.cells rfl
  have HIN : Hid (W.drew.cell? ⟨p, 0, none⟩ = some (.int .i64 (s.lm : Int)) ∧ W.drew.cell? ⟨p, 1, none⟩ = some (.int .i64 (s.lb : Int)) ∧ W.drew.cell? ⟨p, 10, none⟩ = some (.slice wo s.ms.length wc)) := ⟨c0, c1, c10⟩
  clear h
  go_enter Try.func49, Try.ntmps49
  go_wp2_with fail
  refine wp_region_held_drew (S := fun w' => w'.cell? ⟨p, 0, none⟩ = some (.int .i64 (s.lm : Int)) ∧ w'.cell? ⟨p, 1, none⟩ = some (.int .i64 (s.lb : Int)) ∧ w'.cell? ⟨p, 10, none⟩ = some (.slice wo s.ms.length wc)) (by kernel_rfl) (HIN.out) (fun hHeld => ?_)
  refine wpAnyH_take (i := 0) (oi := { dst := some 4, op := Op.move (Operand.tmp 0), type := 92, pos := "scan.go:46", after := #[], guard := none }) (v := ?v0a1) rfl (by kernel_rfl) (by kernel_rfl) (by kernel_rfl) (fun _ _ _ h => h) (Or.inl ⟨by rfl, ?y0a1⟩) (by assumption) ?r0a1
  case y0a1 => (intro w hSw; obtain ⟨s1, s2, s3⟩ := hSw; go_simp; (try with_reducible rfl))
  (try simp only [Act.put]); (try simp only [List.setIfInBounds_toArray]); (try simp only [List.set_cons_succ]); (try simp only [List.set_cons_zero])
  refine wpAnyH_take (i := 1) (oi := { dst := some 5, op := Op.move (Operand.tmp 0), type := 92, pos := "scan.go:46", after := #[], guard := none }) (v := ?v1a2) rfl (by kernel_rfl) (by kernel_rfl) (by kernel_rfl) (fun _ _ _ h => h) (Or.inl ⟨by rfl, ?y1a2⟩) (by assumption) ?r1a2
  case y1a2 => (intro w hSw; obtain ⟨s1, s2, s3⟩ := hSw; go_simp; (try with_reducible rfl))
  (try simp only [Act.put]); (try simp only [List.setIfInBounds_toArray]); (try simp only [List.set_cons_succ]); (try simp only [List.set_cons_zero])
  refine wpAnyH_take (i := 2) (oi := { dst := some 6, op := Op.nilCheck (Operand.tmp 5), type := 0, pos := "scan.go:46", after := #[{ on := 1, ground := Ground.data }], guard := none }) (v := ?v2a3) rfl (by kernel_rfl) (by kernel_rfl) (by kernel_rfl) (fun _ _ _ h => h) (Or.inl ⟨by rfl, ?y2a3⟩) (by assumption) ?r2a3
  case y2a3 => (intro w hSw; obtain ⟨s1, s2, s3⟩ := hSw; go_simp; (try with_reducible rfl))
  (try simp only [Act.put]); (try simp only [List.setIfInBounds_toArray]); (try simp only [List.set_cons_succ]); (try simp only [List.set_cons_zero])
  refine wpAnyH_take (i := 3) (oi := { dst := some 7, op := Op.fieldAddr 73 (Operand.tmp 6) 0, type := 0, pos := "scan.go:46", after := #[{ on := 2, ground := Ground.data }], guard := none }) (v := ?v3a4) rfl (by kernel_rfl) (by kernel_rfl) (by kernel_rfl) (fun _ _ _ h => h) (Or.inl ⟨by rfl, ?y3a4⟩) (by assumption) ?r3a4
  case y3a4 => (intro w hSw; obtain ⟨s1, s2, s3⟩ := hSw; go_simp; (try with_reducible rfl))
  (try simp only [Act.put]); (try simp only [List.setIfInBounds_toArray]); (try simp only [List.set_cons_succ]); (try simp only [List.set_cons_zero])
  refine wpAnyH_take (i := 4) (oi := { dst := some 8, op := Op.load 40 (Operand.tmp 7), type := 40, pos := "scan.go:46", after := #[{ on := 3, ground := Ground.data }], guard := none }) (v := ?v4a5) rfl (by kernel_rfl) (by kernel_rfl) (by kernel_rfl) (fun _ _ _ h => h) (Or.inl ⟨by rfl, ?y4a5⟩) (by assumption) ?r4a5
  case y4a5 => (intro w hSw; obtain ⟨s1, s2, s3⟩ := hSw; go_simp; (try with_reducible rfl))
  (try simp only [Act.put]); (try simp only [List.setIfInBounds_toArray]); (try simp only [List.set_cons_succ]); (try simp only [List.set_cons_zero])
  refine wpAnyH_take (i := 5) (oi := { dst := some 9, op := Op.move (Operand.tmp 1), type := 3, pos := "scan.go:46", after := #[], guard := none }) (v := ?v5a6) rfl (by kernel_rfl) (by kernel_rfl) (by kernel_rfl) (fun _ _ _ h => h) (Or.inl ⟨by rfl, ?y5a6⟩) (by assumption) ?r5a6
  case y5a6 => (intro w hSw; obtain ⟨s1, s2, s3⟩ := hSw; go_simp; (try with_reducible rfl))
  (try simp only [Act.put]); (try simp only [List.setIfInBounds_toArray]); (try simp only [List.set_cons_succ]); (try simp only [List.set_cons_zero])
  refine wpAnyH_take (i := 6) (oi := { dst := some 10, op := Op.move (Operand.tmp 0), type := 92, pos := "scan.go:46", after := #[], guard := none }) (v := ?v6a7) rfl (by kernel_rfl) (by kernel_rfl) (by kernel_rfl) (fun _ _ _ h => h) (Or.inl ⟨by rfl, ?y6a7⟩) (by assumption) ?r6a7
  case y6a7 => (intro w hSw; obtain ⟨s1, s2, s3⟩ := hSw; go_simp; (try with_reducible rfl))
  (try simp only [Act.put]); (try simp only [List.setIfInBounds_toArray]); (try simp only [List.set_cons_succ]); (try simp only [List.set_cons_zero])
  refine wpAnyH_take (i := 7) (oi := { dst := some 11, op := Op.nilCheck (Operand.tmp 10), type := 0, pos := "scan.go:46", after := #[{ on := 6, ground := Ground.data }], guard := none }) (v := ?v7a8) rfl (by kernel_rfl) (by kernel_rfl) (by kernel_rfl) (fun _ _ _ h => h) (Or.inl ⟨by rfl, ?y7a8⟩) (by assumption) ?r7a8
  case y7a8 => (intro w hSw; obtain ⟨s1, s2, s3⟩ := hSw; go_simp; (try with_reducible rfl))
  (try simp only [Act.put]); (try simp only [List.setIfInBounds_toArray]); (try simp only [List.set_cons_succ]); (try simp only [List.set_cons_zero])
  refine wpAnyH_take (i := 8) (oi := { dst := some 12, op := Op.fieldAddr 73 (Operand.tmp 11) 8, type := 0, pos := "scan.go:46", after := #[{ on := 7, ground := Ground.data }], guard := none }) (v := ?v8a9) rfl (by kernel_rfl) (by kernel_rfl) (by kernel_rfl) (fun _ _ _ h => h) (Or.inl ⟨by rfl, ?y8a9⟩) (by assumption) ?r8a9
  case y8a9 => (intro w hSw; obtain ⟨s1, s2, s3⟩ := hSw; go_simp; (try with_reducible rfl))
  (try simp only [Act.put]); (try simp only [List.setIfInBounds_toArray]); (try simp only [List.set_cons_succ]); (try simp only [List.set_cons_zero])
  refine wpAnyH_take (i := 9) (oi := { dst := some 13, op := Op.load 58 (Operand.tmp 12), type := 58, pos := "scan.go:46", after := #[{ on := 8, ground := Ground.data }], guard := none }) (v := ?v9a10) rfl (by kernel_rfl) (by kernel_rfl) (by kernel_rfl) (fun _ _ _ h => h) (Or.inl ⟨by rfl, ?y9a10⟩) (by assumption) ?r9a10
  case y9a10 => (intro w hSw; obtain ⟨s1, s2, s3⟩ := hSw; go_simp; (try with_reducible rfl))
  (try simp only [Act.put]); (try simp only [List.setIfInBounds_toArray]); (try simp only [List.set_cons_succ]); (try simp only [List.set_cons_zero])
  refine wpAnyH_take (i := 10) (oi := { dst := some 14, op := Op.build 73 #[(0, Operand.tmp 8), (1, Operand.tmp 9), (8, Operand.tmp 13), (6, Operand.const (Value.int IntKind.u32 2166136261))], type := 73, pos := "scan.go:46", after := #[{ on := 4, ground := Ground.data }, { on := 5, ground := Ground.data }, { on := 9, ground := Ground.data }], guard := none }) (v := ?v10a11) rfl (by kernel_rfl) (by kernel_rfl) (by kernel_rfl) (fun _ _ _ h => h) (Or.inl ⟨by rfl, ?y10a11⟩) (by assumption) ?r10a11
  case y10a11 => (intro w hSw; obtain ⟨s1, s2, s3⟩ := hSw; go_simp; (try with_reducible rfl))
  (try simp only [Act.put]); (try simp only [List.setIfInBounds_toArray]); (try simp only [List.set_cons_succ]); (try simp only [List.set_cons_zero])
  refine wpAnyH_take (i := 11) (oi := { dst := some 15, op := Op.nilCheck (Operand.tmp 4), type := 0, pos := "scan.go:46", after := #[{ on := 0, ground := Ground.data }, { on := 0, ground := Ground.phase }, { on := 1, ground := Ground.phase }, { on := 2, ground := Ground.phase }, { on := 3, ground := Ground.phase }, { on := 4, ground := Ground.phase }, { on := 5, ground := Ground.phase }, { on := 6, ground := Ground.phase }, { on := 7, ground := Ground.phase }, { on := 8, ground := Ground.phase }, { on := 9, ground := Ground.phase }, { on := 10, ground := Ground.phase }], guard := none }) (v := ?v11a12) rfl (by kernel_rfl) (by kernel_rfl) (by kernel_rfl) (fun _ _ _ h => h) (Or.inl ⟨by rfl, ?y11a12⟩) (by assumption) ?r11a12
  case y11a12 => (intro w hSw; obtain ⟨s1, s2, s3⟩ := hSw; go_simp; (try with_reducible rfl))
  (try simp only [Act.put]); (try simp only [List.setIfInBounds_toArray]); (try simp only [List.set_cons_succ]); (try simp only [List.set_cons_zero])
  refine wpAnyH_ready (rs := [12]) (by kernel_rfl) (by simp) ?_
  refine AllReadyH.cons (o := { dst := none, op := Op.store 73 (Operand.tmp 15) (Operand.tmp 14), type := 0, pos := "scan.go:46", after := #[{ on := 11, ground := Ground.data }, { on := 10, ground := Ground.data }, { on := 0, ground := Ground.phase }, { on := 1, ground := Ground.phase }, { on := 2, ground := Ground.phase }, { on := 3, ground := Ground.phase }, { on := 4, ground := Ground.phase }, { on := 5, ground := Ground.phase }, { on := 6, ground := Ground.phase }, { on := 7, ground := Ground.phase }, { on := 8, ground := Ground.phase }, { on := 9, ground := Ground.phase }, { on := 10, ground := Ground.phase }], guard := none }) rfl (fun Kc hK => ?_) AllReadyH.nil
  refine wp_store_row 73 (.tmp 15) (.tmp 14) rfl p (beginCells s st wo wc).toArray hb (by rfl) (by rfl) (by simp [beginCells]) (by kernel_rfl) (by simp [beginCells, Value.oneCell']) ?_
  obtain ⟨V1, hV1⟩ : ∃ V1, V1 = W.drew.setRow p ((beginCells s st wo wc).toArray.toList ++ (#[.int .i64 (s.lm : Int), .int .i64 (s.lb : Int), .int .i64 (s.st : Int), .int .i64 (s.left : Int), rv (R 0), .int .i64 (s.me : Int), .int .i64 (s.bo : Int), .int .u32 (s.sum.toNat : Int), rv (R 1), rv (R 2), .slice wo s.ms.length wc, .int .i64 s.e] : Array Value).toList.drop (beginCells s st wo wc).toArray.size).toArray := ⟨_, rfl⟩
  rw [← hV1]
  have hb1 : V1.heap[p]? = some (.cells (beginCells s st wo wc ++ []).toArray 73 (0, 0)) := by rw [hV1]; exact setRow_heap W.drew p _ _ 73 (0, 0) hb
  have hk1 : Keeps W V1 (fun g => g = p) := by rw [hV1]; exact keeps_setRow W p _
  have hR1 := HR.out.begun (st := st) hb1 hk1
  have HK := hidM hk1
  have H1 := hidM hR1
  clear hV1 hk1
  have e0 : V1.cell? ⟨p, 0, none⟩ = some (.int .i64 (s.lm : Int)) := hR1.cells rfl
  have e1 : V1.cell? ⟨p, 1, none⟩ = some (.int .i64 (s.lb : Int)) := hR1.cells rfl
  have e10 : V1.cell? ⟨p, 10, none⟩ = some (.slice wo s.ms.length wc) := hR1.cells rfl
  refine hK.out _ _ ⟨e0, e1, e10⟩ (fun hHeld => ?_)
  clear hK Kc
  (try simp only [Act.put]); (try simp only [List.setIfInBounds_toArray]); (try simp only [List.set_cons_succ]); (try simp only [List.set_cons_zero])
  refine wpAnyH_done (by kernel_rfl) ?_ _
  clear c0 c1 c10 HIN hb hb1 e0 e1 e10
  have c5 : V1.cell? ⟨p, 5, none⟩ = some (.int .i64 ((0 : Nat) : Int)) := hR1.cells rfl
  have c6 : V1.cell? ⟨p, 6, none⟩ = some (.int .i64 ((0 : Nat) : Int)) := hR1.cells rfl
  have HWn := hidM (wants_any (p := p) (me := 0) (bo := 0) (st := st) hst (by omega) (by omega) c5 c6)
  clear c5 c6 hR1
  go_wp2_with (go_at_call 59; refine Hid.out ?_)
  unfold Hid
  refine Calls.mono HWn.out ?_
  rintro e V2 ⟨rfl, g2⟩
  have hR2 := H1.out.grow g2
  obtain ⟨lf, hlf⟩ : ∃ lf : Nat, lf = wantsF 0 0 st := ⟨_, rfl⟩
  have hR3 := hR2.set (j := 3) (v := .int .i64 (lf : Int)) (s' := beginF s st) (tl' := []) (by rw [hlf]; rfl) rfl (fun _ => rfl)
  have t3 : V2.cell? ⟨p, 3, none⟩ = some (.int .i64 ((0 : Nat) : Int)) := hR2.cells rfl
  have f3 : V2.frozen? ⟨p, 3, none⟩ = false := frz hR2.box 3
  have HFin : Hid (RdDone w W (V2.setCell ⟨p, 3, none⟩ (.int .i64 (lf : Int))) p 73 [] s.ms.length R wo wc (beginF s st)) := by
    refine ⟨_, _, _, hR3, ?_, fun g e => .inl (begin_sub e)⟩
    exact Keeps.setCell (S := RIs p s.ms.length R wo wc) (p := ⟨p, 3, none⟩) ((HK.out.mono fun g _ e => .inl e).trans (g2.mono fun _ _ f => f.elim) (fun _ _ e => e)) (fun _ => .inl rfl) _
  rw [← hlf]
  clear hR2 hR3 hlf g2 HWn H1 HK
  go_wp2_with fail
  refine bodyPost_end (v := .tuple #[]) ?_ rfl ⟨rfl, HFin.out⟩
  simp [results, Try.f49, go_sem]
end Go.Proofs.Ytemleibpmaclmaa.Kit
