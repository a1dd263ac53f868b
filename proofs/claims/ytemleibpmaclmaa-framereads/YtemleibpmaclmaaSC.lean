import Derived.Test.YtemleibpmaclmaaSB
import Derived.Test.YtemleibpmaclmaaFL
namespace Go.Proofs.Ytemleibpmaclmaa.Kit
open Go.RowKit Go.Shelf Go.Deep
set_option linter.unusedVariables false
attribute [local go_sem] run_store_func

/-! ### a scan, as data -/
structure Sc where
  lm : Nat
  lb : Nat
  st : Nat
  left : Nat
  hd : List UInt8
  me : Nat
  bo : Nat
  sum : UInt32
  md : List UInt8
  bd : List UInt8
  ms : List (List UInt8 × List UInt8)
  e : Int
def wantsF (me bo : Nat) : Nat → Nat
  | 0 => 4
  | 1 => 8
  | 2 => 4
  | 3 => 4
  | 4 => 4
  | 5 => me
  | 6 => up8 me - me
  | 7 => bo
  | 8 => up8 bo - bo
  | _ => 1
def beginF (s : Sc) (st : Nat) : Sc := { lm := s.lm, lb := s.lb, st := st, left := wantsF 0 0 st, hd := [], me := 0, bo := 0, sum := sum0, md := [], bd := [], ms := s.ms, e := 0 }
def isEndF (s : Sc) : Bool := s.hd.take 4 == mark 48
def readHeadF (s : Sc) : Int × Sc :=
  if num4 s.hd 12 ≠ (sumU sum0 (s.hd.take 12)).toNat then (72, s)
  else if s.lm < num4 s.hd 4 ∨ s.lb < num4 s.hd 8 then (71, s)
  else if isEndF s = true ∧ (num4 s.hd 4 ≠ 0 ∨ num4 s.hd 8 ≠ 0) then (8, s)
  else (0, { s with me := num4 s.hd 4, bo := num4 s.hd 8 })
def finishF (s : Sc) : Int × Sc :=
  if num4 s.hd 16 ≠ s.sum.toNat then (72, s)
  else if isEndF s = true then (0, beginF s 9)
  else (0, beginF { s with ms := s.ms ++ [(s.md, s.bd)] } 0)
def forwardF : Nat → Sc → Int × Sc
  | 0, s => (0, s)
  | n + 1, s =>
    if s.left ≠ 0 then (0, s)
    else if s.st = 8 then finishF s
    else
      let r := if s.st = 2 then readHeadF s else (0, s)
      if r.1 ≠ 0 then r
      else forwardF n { r.2 with st := r.2.st + 1, left := wantsF r.2.me r.2.bo (r.2.st + 1) }
def marksB (l : List UInt8) : Bool := l.isPrefixOf (mark 49) || l.isPrefixOf (mark 48)
/-- what a piece does, ahead of going forward -/
def pieceF (s : Sc) (p : List UInt8) : Int × Sc :=
  if s.st = 0 then (if marksB (s.hd ++ p) = true then 0 else 70, { s with hd := s.hd ++ p })
  else if s.st = 1 ∨ s.st = 2 ∨ s.st = 3 then (0, { s with hd := s.hd ++ p })
  else if s.st = 5 then (0, { s with md := s.md ++ p, sum := sumU s.sum p })
  else if s.st = 7 then (0, { s with bd := s.bd ++ p, sum := sumU s.sum p })
  else if s.st = 4 ∨ s.st = 6 ∨ s.st = 8 then (if p.all (· == 0) = true then 0 else 8, s)
  else (74, s)
def wrongF (s : Sc) (e : Int) : Sc := { lm := 0, lb := 0, st := 0, left := 0, hd := [], me := 0, bo := 0, sum := 0, md := [], bd := [], ms := s.ms, e := e }
def takeF : Nat → Sc → List UInt8 → Sc
  | 0, s, _ => s
  | n + 1, s, b =>
    if b = [] then s
    else
      let k := min s.left b.length
      let r := pieceF s (b.take k)
      if r.1 ≠ 0 then wrongF r.2 r.1
      else
        let q := forwardF 10 { r.2 with left := r.2.left - k }
        if q.1 ≠ 0 then wrongF q.2 q.1 else takeF n q.2 (b.drop k)
def feedF (s : Sc) (b : List UInt8) : Sc := if s.e ≠ 0 then wrongF s s.e else takeF b.length s b

/-! ### a scan in memory -/
def Sc.row (s : Sc) (i : Nat) : List UInt8 :=
  if i = 0 then s.hd else if i = 1 then s.md else if i = 2 then s.bd else if i % 2 = 1 then (s.ms.getD ((i - 3) / 2) ([], [])).1 else (s.ms.getD ((i - 3) / 2) ([], [])).2
def scCells (s : Sc) (R : Nat → Row) (wo : Option Addr) (wc : Nat) : List Value :=
  [.int .i64 (s.lm : Int), .int .i64 (s.lb : Int), .int .i64 (s.st : Int), .int .i64 (s.left : Int), rv (R 0), .int .i64 (s.me : Int), .int .i64 (s.bo : Int), .int .u32 (s.sum.toNat : Int), rv (R 1), rv (R 2), .slice wo s.ms.length wc, .int .i64 s.e]
def wCells (R : Nat → Row) (n : Nat) : List Value := (List.range n).flatMap fun i => [rv (R (3 + 2 * i)), rv (R (4 + 2 * i))]
structure Rd (w W : World) (p T : Nat) (tl : List Value) (s : Sc) (R : Nat → Row) (wo : Option Addr) (wc : Nat) : Prop where
  gr : Gr w W
  pnew : w.heap.size ≤ p
  ty : T = 73 ∨ T = 76
  box : W.heap[p]? = some (.cells (scCells s R wo wc ++ tl).toArray T (0, 0))
  rows : ∀ i, i < 3 + 2 * s.ms.length → W.ownsRow 0 5 1 (rv (R i)) (R i).2.1 (bv (s.row i))
  rnew : ∀ i, i < 3 + 2 * s.ms.length → ∀ g, (rv (R i)).ownBlock = some g → w.heap.size ≤ g
  apart : ∀ i j g, i < 3 + 2 * s.ms.length → j < 3 + 2 * s.ms.length → i ≠ j → (rv (R i)).ownBlock = some g → (rv (R j)).ownBlock ≠ some g
  wown : OffRow W 24 2 wo s.ms.length wc (wCells R s.ms.length)
  wnew : ∀ g, (Value.slice wo s.ms.length wc).ownBlock = some g → w.heap.size ≤ g
/-- the blocks of a scan -/
def RIs (p n : Nat) (R : Nat → Row) (wo : Option Addr) (wc : Nat) (g : Nat) : Prop := g = p ∨ (Value.slice wo n wc).ownBlock = some g ∨ ∃ i, i < 3 + 2 * n ∧ (rv (R i)).ownBlock = some g
theorem Rd.lt {w W : World} {p T : Nat} {tl : List Value} {s : Sc} {R : Nat → Row} {wo : Option Addr} {wc : Nat} (h : Rd w W p T tl s R wo wc) {g : Nat} (k : RIs p s.ms.length R wo wc g) : g < W.heap.size := by
  rcases k with rfl | k | ⟨i, hi, k⟩
  · exact lt_of_heap h.box
  · exact h.wown.lt k
  · exact own_lt (h.rows i hi) g k
theorem Rd.kp {w W W' : World} {p T : Nat} {tl : List Value} {s : Sc} {R : Nat → Row} {wo : Option Addr} {wc : Nat} (h : Rd w W p T tl s R wo wc) (e : ∀ g, RIs p s.ms.length R wo wc g → W'.heap[g]? = W.heap[g]?) (g : Gr w W') : Rd w W' p T tl s R wo wc :=
  ⟨g, h.pnew, h.ty, (e p (.inl rfl)).trans h.box, fun i hi => own_kp (h.rows i hi) fun b hb => e b (.inr (.inr ⟨i, hi, hb⟩)), h.rnew, h.apart, h.wown.kp fun b hb => e b (.inr (.inl hb)), h.wnew⟩
theorem Rd.grow {w W W' : World} {p T : Nat} {tl : List Value} {s : Sc} {R : Nat → Row} {wo : Option Addr} {wc : Nat} (h : Rd w W p T tl s R wo wc) (g : Gr W W') : Rd w W' p T tl s R wo wc :=
  h.kp (fun b hb => g.block b (h.lt hb) id) (h.gr.trans g (fun _ _ h => h))
/-- what every call on a scan leaves -/
def RdDone (w W W' : World) (p T : Nat) (tl : List Value) (n : Nat) (R : Nat → Row) (wo : Option Addr) (wc : Nat) (s' : Sc) : Prop :=
  ∃ R' wo' wc', Rd w W' p T tl s' R' wo' wc' ∧ Keeps W W' (RIs p n R wo wc) ∧ ∀ g, RIs p s'.ms.length R' wo' wc' g → RIs p n R wo wc g ∨ W.heap.size ≤ g
theorem RdDone.refl {w W W' : World} {p T : Nat} {tl : List Value} {s : Sc} {R : Nat → Row} {wo : Option Addr} {wc : Nat} (h : Rd w W p T tl s R wo wc) (g : Gr W W') : RdDone w W W' p T tl s.ms.length R wo wc s :=
  ⟨R, wo, wc, h.grow g, g.mono fun _ _ f => f.elim, fun _ h => .inl h⟩
theorem RdDone.trans {w W W1 W2 : World} {p T : Nat} {tl : List Value} {n : Nat} {R R1 : Nat → Row} {wo wo1 : Option Addr} {wc wc1 : Nat} {s1 s2 : Sc} (k : Keeps W W1 (RIs p n R wo wc)) (b : ∀ g, RIs p s1.ms.length R1 wo1 wc1 g → RIs p n R wo wc g ∨ W.heap.size ≤ g) (h : RdDone w W1 W2 p T tl s1.ms.length R1 wo1 wc1 s2) : RdDone w W W2 p T tl n R wo wc s2 := by
  obtain ⟨R2, wo2, wc2, r2, k2, b2⟩ := h
  refine ⟨R2, wo2, wc2, r2, k.trans k2 (fun j hj e => ?_), fun g e => ?_⟩
  · rcases b j e with q | q
    · exact q
    · omega
  · rcases b2 g e with q | q
    · exact b g q
    · exact .inr (Nat.le_trans k.size q)
theorem Rd.cells {w W : World} {p T : Nat} {tl : List Value} {s : Sc} {R : Nat → Row} {wo : Option Addr} {wc : Nat} (h : Rd w W p T tl s R wo wc) {j : Nat} {v : Value} (hj : (scCells s R wo wc ++ tl)[j]? = some v) : W.cell? ⟨p, j, none⟩ = some v := by
  simp only [World.cell?, h.box]
  simpa using hj

set_option maxRecDepth 100000 in
set_option maxHeartbeats 2000000 in
theorem wants_any {p me bo st : Nat} {w : World} (hst : st ≤ 9) (hme : me ≤ 140737488355328) (hbo : bo ≤ 140737488355328) (h5 : w.cell? ⟨p, 5, none⟩ = some (.int .i64 (me : Int))) (h6 : w.cell? ⟨p, 6, none⟩ = some (.int .i64 (bo : Int))) :
    Calls Try.prog 59 #[.pointer (some ⟨p, 0, none⟩), .int .i64 (st : Int)] w fun e w' => e = .returned (.int .i64 (wantsF me bo st : Int)) ∧ Gr w w' := by
  have HU1 : Hid (∀ V, Calls Try.prog 50 #[.int .i64 (me : Int)] V fun e w' => e = .returned (.int .i64 (up8 me : Int)) ∧ V = w') := fun V => padded_any me V (by omega)
  have HU2 : Hid (∀ V, Calls Try.prog 50 #[.int .i64 (bo : Int)] V fun e w' => e = .returned (.int .i64 (up8 bo : Int)) ∧ V = w') := fun V => padded_any bo V (by omega)
  obtain ⟨u1, hu1⟩ : ∃ u1 : Int, u1 = (up8 me : Int) := ⟨_, rfl⟩
  obtain ⟨u2, hu2⟩ : ∃ u2 : Int, u2 = (up8 bo : Int) := ⟨_, rfl⟩
  have a1 := up8_ge me
  have a2 := up8_ge bo
  have HE1 : Hid (IntKind.i64.wrap (u1 - (me : Int)) = ((up8 me - me : Nat) : Int)) := by show _ = _; rw [IntKind.wrap_i64]; omega
  have HE2 : Hid (IntKind.i64.wrap (u2 - (bo : Int)) = ((up8 bo - bo : Nat) : Int)) := by show _ = _; rw [IntKind.wrap_i64]; omega
  rw [← hu1] at HU1
  rw [← hu2] at HU2
  clear hu1 hu2 a1 a2
  match st, hst with
  | 0, _ => go_enter Try.func59, Try.ntmps59; go_wp2_with fail; go_ret; exact ⟨rfl, Keeps.refl _ _⟩
  | 1, _ => go_enter Try.func59, Try.ntmps59; go_wp2_with fail; go_ret; exact ⟨rfl, Keeps.refl _ _⟩
  | 2, _ => go_enter Try.func59, Try.ntmps59; go_wp2_with fail; go_ret; exact ⟨rfl, Keeps.refl _ _⟩
  | 3, _ => go_enter Try.func59, Try.ntmps59; go_wp2_with fail; go_ret; exact ⟨rfl, Keeps.refl _ _⟩
  | 4, _ => go_enter Try.func59, Try.ntmps59; go_wp2_with fail; go_ret; exact ⟨rfl, Keeps.refl _ _⟩
  | 5, _ => go_enter Try.func59, Try.ntmps59; go_wp2_with fail; go_ret; exact ⟨rfl, Keeps.refl _ _⟩
  | 7, _ => go_enter Try.func59, Try.ntmps59; go_wp2_with fail; go_ret; exact ⟨rfl, Keeps.refl _ _⟩
  | 9, _ => go_enter Try.func59, Try.ntmps59; go_wp2_with fail; go_ret; exact ⟨rfl, Keeps.refl _ _⟩
  | 6, _ =>
    go_enter Try.func59, Try.ntmps59
    go_wp2_with fail
    have HIN : Hid (w.drew.cell? ⟨p, 5, none⟩ = some (.int .i64 (me : Int))) := h5
    go_region_held3 (fun V => V.cell? ⟨p, 5, none⟩ = some (.int .i64 (me : Int))) (first | with_reducible exact HIN.out | with_reducible assumption) (first | (go_at_call 50; with_reducible refine (HU1.out _).mono ?_; rintro e w' ⟨rfl, rfl⟩))
    go_wp2_with fail
    go_ret
    exact ⟨by have := HE1.out; show _ = Ending.returned (.int .i64 ((up8 me - me : Nat) : Int)); rw [← this]; rfl, (Keeps.refl w _).drew⟩
  | 8, _ =>
    go_enter Try.func59, Try.ntmps59
    go_wp2_with fail
    have HIN : Hid (w.drew.cell? ⟨p, 6, none⟩ = some (.int .i64 (bo : Int))) := h6
    go_region_held3 (fun V => V.cell? ⟨p, 6, none⟩ = some (.int .i64 (bo : Int))) (first | with_reducible exact HIN.out | with_reducible assumption) (first | (go_at_call 50; with_reducible refine (HU2.out _).mono ?_; rintro e w' ⟨rfl, rfl⟩))
    go_wp2_with fail
    go_ret
    exact ⟨by have := HE2.out; show _ = Ending.returned (.int .i64 ((up8 bo - bo : Nat) : Int)); rw [← this]; rfl, (Keeps.refl w _).drew⟩
end Go.Proofs.Ytemleibpmaclmaa.Kit
