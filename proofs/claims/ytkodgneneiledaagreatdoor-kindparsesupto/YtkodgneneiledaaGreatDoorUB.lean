import Derived.Test.YtkodgneneiledaaGreatDoorRows
import Derived.Test.YtkodgneneiledaaGreatDoorGA
import Derived.ProofKit
import Derived.OpenShut
import Derived.ChangeOld
import Derived.Below
import Derived.Deep.Slices
import Derived.Lib.LaidTab
import Derived.Deep.DeepHandedRow
import Derived.Test.YtkodgneneiledaaGreatDoorLK
import Derived.Test.YtkodgneneiledaaGreatDoorFD
import Derived.Deep.RegionHeld3
set_option maxRecDepth 100000
set_option maxHeartbeats 4000000
namespace Go.Proofs.YtkodgneneiledaaGreatDoor.kindR
open Go.ChangeShapes Go.WideShapes Go.ChangeAt Go.RowKit Go.Deep
set_option linter.unusedVariables false
def rowD (k : Nat) : DataW Unit := .agg [.lit (.string (Kit.wordK k)), .lit (.int .i64 (Kit.bytesK k)), .lit (.int .i64 (Kit.bufsK k)), .lit (.int .i64 (Kit.leastK k)), .lit (.int .i64 (Kit.mostK k))]
theorem laid_rows : (Rows.laid_colonnade_kind_kinds : DataW Unit) = .agg ((List.range 21).map rowD) := rfl
theorem cells85 : Tryz.prog.cellsOf 136 = 5 := by kernel_rfl
theorem cells86 : Tryz.prog.cellsOf 137 = 105 := by kernel_rfl
theorem cells3 : Tryz.prog.cellsOf 3 = 1 := by kernel_rfl
theorem cells9 : Tryz.prog.cellsOf 9 = 1 := by kernel_rfl
theorem gKinds : Tryz.prog.globalNamed "colonnade/kind.kinds" = some 0 := by kernel_rfl
theorem gKindsT : (Tryz.prog.globals[0]?).map (·.type) = some 137 := by kernel_rfl
theorem row_at {W : World} {fuel : Nat} {cs : List Value} {k : Nat} {p : List MemPlace} (h : DataW.trod (fun _ => ()) Tryz.prog W 0 (fun _ => true) false fuel 136 cs = some (rowD k, p)) :
    cs = [.string ⟨(Kit.wordK k).toArray⟩, .int .i64 (Kit.bytesK k), .int .i64 (Kit.bufsK k), .int .i64 (Kit.leastK k), .int .i64 (Kit.mostK k)] := by
  obtain ⟨xs, m, _, hd, hl, hxs, hf⟩ := DataW.trod_struct Tryz.underlying136 h
  rw [cells85] at hl
  obtain ⟨c0, c1, c2, c3, c4, rfl⟩ : ∃ c0 c1 c2 c3 c4, cs = [c0, c1, c2, c3, c4] := by
    match cs, hl with
    | [a, b, c, d, e], _ => exact ⟨a, b, c, d, e, rfl⟩
  obtain ⟨y0, y1, y2, y3, y4, rfl⟩ : ∃ y0 y1 y2 y3 y4, xs = [y0, y1, y2, y3, y4] := by
    match xs, (hxs.trans rfl : xs.length = 5) with
    | [a, b, c, d, e], _ => exact ⟨a, b, c, d, e, rfl⟩
  have f0 : DataW.trod (fun _ => ()) Tryz.prog W 0 (fun _ => true) false m 9 ((([c0, c1, c2, c3, c4] : List Value).drop 0).take (Tryz.prog.cellsOf 9)) = some y0 := hf 0 _ rfl
  have f1 : DataW.trod (fun _ => ()) Tryz.prog W 0 (fun _ => true) false m 3 ((([c0, c1, c2, c3, c4] : List Value).drop 1).take (Tryz.prog.cellsOf 3)) = some y1 := hf 1 _ rfl
  have f2 : DataW.trod (fun _ => ()) Tryz.prog W 0 (fun _ => true) false m 3 ((([c0, c1, c2, c3, c4] : List Value).drop 2).take (Tryz.prog.cellsOf 3)) = some y2 := hf 2 _ rfl
  have f3 : DataW.trod (fun _ => ()) Tryz.prog W 0 (fun _ => true) false m 3 ((([c0, c1, c2, c3, c4] : List Value).drop 3).take (Tryz.prog.cellsOf 3)) = some y3 := hf 3 _ rfl
  have f4 : DataW.trod (fun _ => ()) Tryz.prog W 0 (fun _ => true) false m 3 ((([c0, c1, c2, c3, c4] : List Value).drop 4).take (Tryz.prog.cellsOf 3)) = some y4 := hf 4 _ rfl
  rw [cells9] at f0
  rw [cells3] at f1 f2 f3 f4
  simp only [List.drop_zero, List.drop_succ_cons, List.take_succ_cons, List.take_zero] at f0 f1 f2 f3 f4
  obtain ⟨s, e0, g0, _⟩ := DataW.trod_string Tryz.underlying9 f0
  obtain ⟨k1, e1, g1, _⟩ := DataW.trod_int Tryz.underlying3 f1
  obtain ⟨k2, e2, g2, _⟩ := DataW.trod_int Tryz.underlying3 f2
  obtain ⟨k3, e3, g3, _⟩ := DataW.trod_int Tryz.underlying3 f3
  obtain ⟨k4, e4, g4, _⟩ := DataW.trod_int Tryz.underlying3 f4
  subst g0 g1 g2 g3 g4
  simp only [rowD, Prod.mk.injEq, DataW.agg.injEq, List.map_cons, List.map_nil, List.cons.injEq, DataW.lit.injEq, Lit.string.injEq, Lit.int.injEq, true_and, and_true] at hd
  obtain ⟨⟨h0, h1, h2, h3, h4⟩, _⟩ := hd
  simp only [List.cons.injEq, and_true] at e0 e1 e2 e3 e4
  rw [e0, e1, e2, e3, e4, h0, h1, h2, h3, h4]
theorem table {W : World} {l0 l1 l2 : String × DataW Unit} (h : laidMet Tryz.prog [l0, l1, l2, ("colonnade/kind.kinds", Rows.laid_colonnade_kind_kinds)] W) : Kit.Tab W := by
  obtain ⟨ps, ⟨_, _, _, _, _, _, _, _, _, _, ⟨_, _, _, _, _, _, _, _, _, _, ⟨_, _, _, _, _, _, _, _, _, _, ⟨g', t', cs, fuel, p, q, hg', ht', hvar, hd, _, _⟩, _⟩, _⟩, _⟩, _⟩ := h
  obtain rfl := Option.some.inj (gKinds.symm.trans hg')
  obtain rfl := Option.some.inj (gKindsT.symm.trans ht')
  rw [laid_rows] at hd
  obtain ⟨xs, m, _, he, hl, hx, hf⟩ := DataW.trod_array Tryz.underlying137 hd
  rw [cells86] at hl
  rw [cells85] at hf
  simp only [Prod.mk.injEq, DataW.agg.injEq] at he
  have hcell := fun i => World.var?_cell gKinds hvar i
  have hsz : cs.size = 105 := by simpa using hl
  refine ⟨?_, fun k hk => ?_⟩
  · have := hcell 0
    rw [Array.getElem?_eq_getElem (by omega)] at this
    have := block_lt_of_cell this
    exact this
  have h1 := hf k hk
  rw [List.getElem?_eq_getElem (by omega)] at h1
  have h2 : (xs[k]'(by omega)).1 = rowD k := by
    have := congrArg (·[k]?) he.1
    simp only [List.getElem?_map, List.getElem?_range hk, Option.map_some] at this
    rw [List.getElem?_eq_getElem (by omega)] at this
    simpa using this.symm
  have h3 := row_at (k := k) (p := (xs[k]'(by omega)).2) (by rw [h1, ← h2])
  have h4 : ∀ j, j < 5 → cs[k * 5 + j]? = ([.string ⟨(Kit.wordK k).toArray⟩, .int .i64 (Kit.bytesK k), .int .i64 (Kit.bufsK k), .int .i64 (Kit.leastK k), .int .i64 (Kit.mostK k)] : List Value)[j]? := fun j hj => by
    rw [← h3, List.getElem?_take_of_lt hj, List.getElem?_drop, Array.getElem?_toList]
  exact ⟨(hcell _).trans (h4 0 (by decide)), (hcell _).trans (h4 1 (by decide)), (hcell _).trans (h4 2 (by decide)), (hcell _).trans (h4 3 (by decide)), (hcell _).trans (h4 4 (by decide))⟩
end Go.Proofs.YtkodgneneiledaaGreatDoor.kindR
namespace Go.Proofs.YtkodgneneiledaaGreatDoor.kindR
open Go.ChangeShapes Go.WideShapes Go.ChangeAt Go.RowKit Go.Deep
open Go.Proofs.YtkodgneneiledaaGreatDoor
set_option linter.unusedVariables false
theorem one_le {H : Type} (d : DataW H) : 1 ≤ Rows.uptoBulk d := by
  cases d with
  | lit l => cases l <;> simp [Rows.uptoBulk]
  | nil => simp [Rows.uptoBulk]
  | ptr d => simp [Rows.uptoBulk]
  | slice elems spare => simp [Rows.uptoBulk]
  | agg parts => simp [Rows.uptoBulk]
  | iface t d => simp [Rows.uptoBulk]
  | map entries => simp [Rows.uptoBulk]
  | held h => simp [Rows.uptoBulk]
theorem length_le {H : Type} (l : List (DataW H)) : l.length ≤ Rows.uptoBulkAll l := by
  induction l with
  | nil => simp [Rows.uptoBulkAll]
  | cons x r ih => have := one_le x; simp only [Rows.uptoBulkAll, List.length_cons]; omega
theorem add0 (b o i : Nat) : (⟨b, o, none⟩ : Addr).add i = ⟨b, o + i, none⟩ := by simp [Addr.add]
end Go.Proofs.YtkodgneneiledaaGreatDoor.kindR
namespace Go.Proofs.YtkodgneneiledaaGreatDoor.Kit
open Go.RowKit Go.Shelf Go.Deep
set_option linter.unusedVariables false
def blankB (b : UInt8) : Bool := b == 32 || b == 9 || b == 10
def sk (l : List UInt8) : List UInt8 := l.dropWhile blankB
def skN (l : List UInt8) : Nat := (l.takeWhile blankB).length
def D0 : Nat := 65537
abbrev Ps := Nat × List Nat
abbrev Pr (α : Type) := Ps → Except Nat (α × Ps)
def Pr.bind {α β : Type} (r : Pr α) (f : α → Pr β) : Pr β := fun s =>
  match r s with
  | .ok (a, s') => f a s'
  | .error e => .error e
def Pr.pure {α : Type} (a : α) : Pr α := fun s => .ok (a, s)
theorem Pr.bind_ok {α β : Type} {r : Pr α} {f : α → Pr β} {s s' : Ps} {a : α} (h : r s = .ok (a, s')) : r.bind f s = f a s' := by
  unfold Pr.bind; rw [h]
theorem Pr.bind_err {α β : Type} {r : Pr α} {f : α → Pr β} {s : Ps} {e : Nat} (h : r s = .error e) : r.bind f s = .error e := by
  unfold Pr.bind; rw [h]
def peekP (T : List UInt8) : Pr UInt8 := fun s => .ok ((sk (T.drop s.1)).headD 0, (s.1 + skN (T.drop s.1), s.2))
def takesP (T : List UInt8) (c : UInt8) : Pr Bool := (peekP T).bind fun x s => if x = c then .ok (true, (s.1 + 1, s.2)) else .ok (false, s)
def mustP (T : List UInt8) (c : UInt8) : Pr Unit := (takesP T c).bind fun b s => if b then .ok ((), s) else .error s.1
def endP (T : List UInt8) : Pr Unit := (peekP T).bind fun _ s => if s.1 < T.length then .error s.1 else .ok ((), s)
def wordsB (l : List UInt8) : List UInt8 := l.takeWhile fun b => wordB b.toNat
def wordP (T : List UInt8) : Pr (ByteArray × Nat) := (peekP T).bind fun _ s => .ok ((⟨(wordsB (T.drop s.1)).toArray⟩, s.1), (s.1 + (wordsB (T.drop s.1)).length, s.2))
def meanP (T : List UInt8) (of : ByteArray → Int) : Pr Int := (wordP T).bind fun x s => if of x.1 < 0 then .error x.2 else .ok (of x.1, s)
def nameP (T : List UInt8) : Pr ByteArray := (wordP T).bind fun x s => if x.1.size = 0 then .error x.2 else .ok (x.1, (s.1, s.2 ++ [x.2]))
def kindO (x : ByteArray) : Int := ((List.range 21).find? fun k => decide (0 < k) && decide (x.data.toList = wordK k)).elim (-1) fun k => (k : Int)
def indexO (x : ByteArray) : Int := if indexB (kindO x) then kindO x else -1
def decN (l : List UInt8) : Nat := l.foldl (fun n b => 10 * n + (b.toNat - 48)) 0
def numO (x : ByteArray) : Int :=
  if x.size < 1 ∨ 4 < x.size ∨ (x.data.toList.headD 0 = 48 ∧ 1 < x.size) then -1
  else if x.data.toList.all (fun b => digitB b.toNat) then (decN x.data.toList : Int) else -1
def nextP (T : List UInt8) : Pr UInt8 := fun s => match T[s.1]? with | none => .error s.1 | some c => .ok (c, (s.1 + 1, s.2))
def hexV (c : UInt8) : Option Nat := if 48 ≤ c.toNat ∧ c.toNat ≤ 57 then some (c.toNat - 48) else if 97 ≤ c.toNat ∧ c.toNat ≤ 102 then some (c.toNat - 87) else none
def digitP (T : List UInt8) (o : Nat) : Pr Nat := (nextP T).bind fun c s => match hexV c with | none => .error o | some n => .ok (n, s)
def escP (T : List UInt8) (o : Nat) : Pr UInt8 := (nextP T).bind fun c =>
  if c = 34 ∨ c = 92 then Pr.pure c
  else if c = 120 then (digitP T o).bind fun h => (digitP T o).bind fun l => Pr.pure (UInt8.ofNat (16 * h + l))
  else fun _ => .error o
def plainB (c : UInt8) : Bool := decide (32 ≤ c.toNat) && decide (c.toNat ≤ 126)
def quoP (T : List UInt8) : Nat → List UInt8 → Pr ByteArray
  | 0, _ => fun s => .error s.1
  | n + 1, acc => fun s => (nextP T).bind (fun c =>
      if c = 34 then Pr.pure ⟨acc.toArray⟩
      else if c = 92 then (escP T s.1).bind fun b => quoP T n (acc ++ [b])
      else if plainB c then quoP T n (acc ++ [c])
      else fun _ => .error s.1) s
def quotedP (T : List UInt8) : Pr ByteArray := (mustP T 34).bind fun _ => quoP T D0 []
def noteP (T : List UInt8) : Pr (ByteArray × ByteArray) := (quotedP T).bind fun k => (quotedP T).bind fun t => Pr.pure (k, t)
def comP {α : Type} (T : List UInt8) (item : Pr α) : Nat → List α → Pr (List α)
  | 0, acc => Pr.pure acc
  | n + 1, acc => (takesP T 44).bind fun b => if b then item.bind fun x => comP T item n (acc ++ [x]) else Pr.pure acc
def manyP {α : Type} (T : List UInt8) (item : Pr α) : Pr (List α) := item.bind fun x => comP T item D0 [x]
structure TP where
  width : Int
  id : Int
  index : Int
  kids : List FT
def innP (T : List UInt8) (rec : Pr FT) (k : Int) : Pr TP :=
  if k = 14 then (meanP T numO).bind fun x => Pr.pure ⟨x, 0, 0, []⟩
  else if k = 15 ∨ k = 20 then rec.bind fun f => Pr.pure ⟨0, 0, 0, [f]⟩
  else if k = 16 then (meanP T numO).bind fun x => (mustP T 44).bind fun _ => rec.bind fun f => Pr.pure ⟨x, 0, 0, [f]⟩
  else if k = 17 then (peekP T).bind fun c => if c = 41 then Pr.pure ⟨0, 0, 0, []⟩ else (manyP T rec).bind fun l => Pr.pure ⟨0, 0, 0, l⟩
  else if k = 18 then (manyP T rec).bind fun l => Pr.pure ⟨0, 0, 0, l⟩
  else if k = 19 then (meanP T numO).bind fun x => (mustP T 44).bind fun _ => (meanP T indexO).bind fun y => (mustP T 44).bind fun _ => rec.bind fun f => Pr.pure ⟨0, x, y, [f]⟩
  else Pr.pure ⟨0, 0, 0, []⟩
def typP (T : List UInt8) (rec : Pr FT) : Pr (Int × TP) := (meanP T kindO).bind fun k =>
  if k < 14 then Pr.pure (k, ⟨0, 0, 0, []⟩) else (mustP T 40).bind fun _ => (innP T rec k).bind fun t => (mustP T 41).bind fun _ => Pr.pure (k, t)
def fieldP (T : List UInt8) : Nat → Pr FT
  | 0 => fun s => .error s.1
  | d + 1 => (nameP T).bind fun nm => (typP T (fieldP T d)).bind fun t => (takesP T 63).bind fun b => Pr.pure (.mk nm b t.1 t.2.width t.2.id t.2.index t.2.kids)
def notesP (T : List UInt8) (l : List FT) : Pr (List FT × List (ByteArray × ByteArray)) :=
  (takesP T 124).bind fun b => if b then (manyP T (noteP T)).bind fun ns => Pr.pure (l, ns) else Pr.pure (l, [])
def schP (T : List UInt8) : Pr (List FT × List (ByteArray × ByteArray)) := (peekP T).bind fun c s =>
  if c ≠ 124 ∧ s.1 < T.length then (manyP T (fieldP T D0)).bind (notesP T) s else notesP T [] s
theorem drop_skN (l : List UInt8) : l.drop (skN l) = sk l := by
  unfold skN sk
  induction l with
  | nil => rfl
  | cons x l ih =>
    by_cases h : blankB x = true
    · rw [List.takeWhile_cons_of_pos h, List.dropWhile_cons_of_pos h, List.length_cons, List.drop_succ_cons, ih]
    rw [List.takeWhile_cons_of_neg h, List.dropWhile_cons_of_neg h]; rfl
theorem drop_sk (T : List UInt8) (a : Nat) : T.drop (a + skN (T.drop a)) = sk (T.drop a) := by rw [← List.drop_drop, drop_skN]
theorem sk_of {c : UInt8} {l : List UInt8} (h : blankB c = false) : sk (c :: l) = c :: l := by
  unfold sk; rw [List.dropWhile_cons_of_neg (by simp [h])]
theorem sk_sk (l : List UInt8) : sk (sk l) = sk l := by
  induction l with
  | nil => rfl
  | cons x l ih =>
    by_cases h : blankB x = true
    · have e : sk (x :: l) = sk l := by unfold sk; rw [List.dropWhile_cons_of_pos h]
      rw [e, ih]
    have e := sk_of (l := l) (Bool.eq_false_iff.2 h)
    rw [e, e]
theorem hidP {p : Prop} (h : p) : Hid p := h
structure TAt (W : World) (p : Nat) (s : ByteArray) (a : Nat) (no : Value) : Prop where
  box : W.heap[p]? = some (.cells #[.string s, .int .i64 (a : Int), no] 87 (0, 0))
  len : s.size ≤ 65536
  pos : a ≤ s.size
theorem TAt.cells {W : World} {p : Nat} {s : ByteArray} {a : Nat} {no : Value} (h : TAt W p s a no) : W.cell? ⟨p, 0, none⟩ = some (.string s) ∧ W.cell? ⟨p, 1, none⟩ = some (.int .i64 (a : Int)) := by simp [World.cell?, h.box]
theorem TAt.frz {W : World} {p : Nat} {s : ByteArray} {a : Nat} {no : Value} (h : TAt W p s a no) : W.frozen? ⟨p, 1, none⟩ = false := by simp [World.frozen?, h.box]
theorem TAt.lt {W : World} {p : Nat} {s : ByteArray} {a : Nat} {no : Value} (h : TAt W p s a no) : p < W.heap.size := (Array.getElem?_eq_some_iff.1 h.box).1
theorem TAt.gr {W W' : World} {p : Nat} {s : ByteArray} {a : Nat} {no : Value} (h : TAt W p s a no) (k : Gr W W') : TAt W' p s a no := ⟨(k.block p h.lt id).trans h.box, h.len, h.pos⟩
theorem TAt.set {W : World} {p : Nat} {s : ByteArray} {a a' : Nat} {no : Value} (h : TAt W p s a no) (ha : a' ≤ s.size) : TAt (W.setCell ⟨p, 1, none⟩ (.int .i64 (a' : Int))) p s a' no := by
  refine ⟨?_, h.len, ha⟩
  rw [heap_setCell_same W p 1 _ _ _ h.box]
  simp
def atOf (W : World) (p : Nat) : Nat := match W.cell? ⟨p, 1, none⟩ with | some (.int .i64 n) => n.toNat | _ => 0
theorem TAt.at {W : World} {p : Nat} {s : ByteArray} {a : Nat} {no : Value} (h : TAt W p s a no) : atOf W p = a := by unfold atOf; rw [h.cells.2]; simp
abbrev KpR (W W' : World) (p : Nat) : Prop := Keeps W W' (fun z => z = p)
theorem KpR.put {W u : World} {p : Nat} (h : KpR W u p) (v : Value) : KpR W (u.setCell ⟨p, 1, none⟩ v) p := h.setCell (p := ⟨p, 1, none⟩) (fun _ => rfl) v
theorem KpR.gr {W u v : World} {p : Nat} (h : KpR W u p) (g : Gr u v) : KpR W v p := h.trans (g.mono (T := fun z => z = p) fun _ _ h => h.elim) fun _ _ h => h
theorem isBlank_any (c : UInt8) (w : World) : Calls Tryz.prog 77 #[.int .u8 (c.toNat : Int)] w fun e w' => e = .returned (.bool (blankB c)) ∧ w' = w := by
  have hb : blankB c = (decide (c.toNat = 32) || decide (c.toNat = 9) || decide (c.toNat = 10)) := by
    unfold blankB
    rw [Bool.eq_iff_iff]
    simp only [Bool.or_eq_true, beq_iff_eq, decide_eq_true_eq]
    constructor
    · rintro ((rfl | rfl) | rfl) <;> decide
    rintro ((h | h) | h)
    · exact .inl (.inl (UInt8.toNat_inj.1 h))
    · exact .inl (.inr (UInt8.toNat_inj.1 h))
    exact .inr (UInt8.toNat_inj.1 h)
  rw [hb]
  clear hb
  generalize c.toNat = n
  go_enter Tryz.func77, Tryz.ntmps77
  go_wp2
  all_goals
    go_ret
    refine ⟨congrArg (fun b => Ending.returned (.bool b)) ?_, rfl⟩
    rw [Bool.eq_iff_iff]
    simp
    try omega
theorem drop_at {s : ByteArray} {k : Nat} (h : k < s.size) : s.data.toList.drop k = s[k]'h :: s.data.toList.drop (k + 1) := by
  rw [List.drop_eq_getElem_cons (by simpa using h)]
  rfl
theorem drop_end (s : ByteArray) : s.data.toList.drop s.size = [] := List.drop_of_length_le (by simp)
theorem skN_yes {c : UInt8} {l : List UInt8} (h : blankB c = true) : skN (c :: l) = skN l + 1 ∧ sk (c :: l) = sk l := by
  unfold skN sk
  rw [List.takeWhile_cons_of_pos h, List.dropWhile_cons_of_pos h]
  exact ⟨rfl, rfl⟩
theorem skN_no {c : UInt8} {l : List UInt8} (h : blankB c = false) : skN (c :: l) = 0 := by
  unfold skN
  rw [List.takeWhile_cons_of_neg (by simp [h])]
  rfl
theorem skN_le (s : ByteArray) {a : Nat} (h : a ≤ s.size) : a + skN (s.data.toList.drop a) ≤ s.size := by
  have h1 : skN (s.data.toList.drop a) ≤ (s.data.toList.drop a).length := (List.takeWhile_prefix _).length_le
  rw [List.length_drop] at h1
  have h2 : s.data.toList.length = s.size := by simp
  omega
theorem peek_any (p : Nat) (s : ByteArray) (no : Value) (W : World) (a : Nat) (hR : TAt W p s a no) : Calls Tryz.prog 50 #[.pointer (some ⟨p, 0, none⟩)] W fun e w' =>
    e = .returned (.int .u8 (((sk (s.data.toList.drop a)).headD 0).toNat : Int)) ∧ KpR W w' p ∧ TAt w' p s (a + skN (s.data.toList.drop a)) no := by
  have HR := hidP hR
  have hsz : s.size ≤ 65536 := hR.len
  clear hR
  go_enter Tryz.func50, Tryz.ntmps50
  go_wp2_with fail
  go_loopw [] (fun wr => ∃ k : Nat, k ≤ s.size ∧ Hid (KpR W wr p ∧ TAt wr p s k no ∧ k + skN (s.data.toList.drop k) = a + skN (s.data.toList.drop a) ∧ sk (s.data.toList.drop k) = sk (s.data.toList.drop a))) (fun wr => s.size - atOf wr p)
  case atStart => exact ⟨a, HR.out.pos, Keeps.refl _ _, HR.out, rfl, rfl⟩
  case round =>
    obtain ⟨k, hk, HK⟩ := hrel
    have hc := HK.out.2.1.cells
    have hsk : IntKind.i64.wrap ((k : Int) + 1) = ((k + 1 : Nat) : Int) := by rw [IntKind.wrap_i64]; omega
    obtain ⟨c0, c1⟩ := hc
    have HC : Hid (wr.drew.cell? ⟨p, 0, none⟩ = some (.string s) ∧ wr.drew.cell? ⟨p, 1, none⟩ = some (.int .i64 (k : Int))) := ⟨c0, c1⟩
    have HG : Hid (Gr wr wr.drew) := (Keeps.refl wr (fun _ => False)).drew
    clear c0 c1
    by_cases hlt : k < s.size
    · have hb := fun w => isBlank_any (s[k]'hlt) w
      have HD := hidP (drop_at hlt)
      cases hbl : blankB (s[k]'hlt) with
      | true =>
        rw [hbl] at hb
        have HY := hidP (skN_yes (l := s.data.toList.drop (k + 1)) hbl)
        clear hbl
        have HB := hidP hb
        clear hb
        go_wp2_with fail
        go_region_held3 (fun w' => w'.cell? ⟨p, 0, none⟩ = some (.string s) ∧ w'.cell? ⟨p, 1, none⟩ = some (.int .i64 (k : Int))) (with_reducible exact HC.out) (first | (go_at_call 77; refine Calls.mono (HB.out _) ?_; rintro e u1 ⟨rfl, rfl⟩))
        have HR1 := hidP (HK.out.2.1.gr HG.out)
        clear HC; (try clear hHeld)
        generalize wr.drew = u at HG HR1 ⊢
        obtain ⟨d0, d1⟩ := HR1.out.cells
        have z1 := HR1.out.frz
        have HK2 : Hid (KpR W (u.setCell ⟨p, 1, none⟩ (.int .i64 ((k + 1 : Nat) : Int))) p ∧ TAt (u.setCell ⟨p, 1, none⟩ (.int .i64 ((k + 1 : Nat) : Int))) p s (k + 1) no ∧ (k + 1) + skN (s.data.toList.drop (k + 1)) = a + skN (s.data.toList.drop a) ∧ sk (s.data.toList.drop (k + 1)) = sk (s.data.toList.drop a)) := by
          refine ⟨(HK.out.1.gr HG.out).put _, HR1.out.set (by omega), ?_, ?_⟩
          · have := HK.out.2.2.1; rw [HD.out, HY.out.1] at this; omega
          have := HK.out.2.2.2; rw [HD.out, HY.out.2] at this; exact this
        have HM : Hid (atOf (u.setCell ⟨p, 1, none⟩ (.int .i64 ((k + 1 : Nat) : Int))) p = k + 1 ∧ atOf wr p = k) := ⟨HK2.out.2.1.at, HK.out.2.1.at⟩
        go_wp2_with fail
        go_roundw
        case rel => exact ⟨k + 1, by omega, HK2⟩
        case measure =>
          have h1 := HM.out.1
          have h2 := HM.out.2
          rw [h2]
          refine Nat.lt_of_le_of_lt (Nat.le_of_eq (congrArg (s.size - ·) h1)) ?_
          omega
      | false =>
        rw [hbl] at hb
        have HY := hidP (skN_no (l := s.data.toList.drop (k + 1)) hbl)
        have HS := hidP (sk_of (l := s.data.toList.drop (k + 1)) hbl)
        clear hbl
        have HB := hidP hb
        clear hb
        go_wp2_with fail
        go_region_held3 (fun w' => w'.cell? ⟨p, 0, none⟩ = some (.string s) ∧ w'.cell? ⟨p, 1, none⟩ = some (.int .i64 (k : Int))) (with_reducible exact HC.out) (first | (go_at_call 77; refine Calls.mono (HB.out _) ?_; rintro e u1 ⟨rfl, rfl⟩))
        have HR1 := hidP (HK.out.2.1.gr HG.out)
        clear HC; (try clear hHeld)
        generalize wr.drew = u at HG HR1 ⊢
        obtain ⟨d0, d1⟩ := HR1.out.cells
        have hne : ((k : Int) == (s.size : Int)) = false := beq_eq_false_iff_ne.2 (by omega)
        go_wp2_with fail
        go_region
        go_wp2_with fail
        go_region
        go_wp2_with fail
        go_ret
        have HG2 : Gr u u.drew.drew := (Keeps.refl u (fun _ => False)).drew.drew
        have hpos : k = a + skN (s.data.toList.drop a) := by have := HK.out.2.2.1; rw [HD.out, HY.out] at this; omega
        have hv : s[k]'hlt = (sk (s.data.toList.drop a)).headD 0 := by rw [← HK.out.2.2.2, HD.out, HS.out]; rfl
        refine ⟨congrArg (fun n : UInt8 => Ending.returned (.int .u8 (n.toNat : Int))) hv, (HK.out.1.gr HG.out).gr HG2, ?_⟩
        rw [← hpos]
        exact HR1.out.gr HG2
    obtain rfl : k = s.size := by omega
    obtain ⟨d0, d1⟩ := HK.out.2.1.cells
    clear HC
    go_wp2_with fail
    go_region
    go_wp2_with fail
    go_region
    go_wp2_with fail
    go_ret
    have HG2 : Gr wr wr.drew.drew := (Keeps.refl wr (fun _ => False)).drew.drew
    have HE := drop_end s
    have hpos : s.size = a + skN (s.data.toList.drop a) := by have := HK.out.2.2.1; rw [HE] at this; exact this
    have hv : (0 : UInt8) = (sk (s.data.toList.drop a)).headD 0 := by rw [← HK.out.2.2.2, HE]; rfl
    refine ⟨congrArg (fun n : UInt8 => Ending.returned (.int .u8 (n.toNat : Int))) hv, HK.out.1.gr HG2, ?_⟩
    rw [← hpos]
    exact HK.out.2.1.gr HG2
end Go.Proofs.YtkodgneneiledaaGreatDoor.Kit
