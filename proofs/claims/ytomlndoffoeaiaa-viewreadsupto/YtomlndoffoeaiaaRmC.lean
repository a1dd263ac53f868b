import Derived.Test.YtomlndoffoeaiaaReadsX
import Derived.Test.YtomlndoffoeaiaaReadsP
import Derived.Test.YtomlndoffoeaiaaReadsL
import Derived.Test.YtomlndoffoeaiaaReadsJ
namespace Go.Proofs.Ytomlndoffoeaiaa.Kit
open Go.RowKit Go.Deep
set_option linter.unusedVariables false

/-! ### the room: what lies where, and that it lies apart -/
/-- bytes in a block -/
def byteRow (L : List Int) : Array Value := (L.map (Value.int .u8)).toArray
/-- a list of n bytes, those from off on of the first N of block A -/
structure VOk (A N off : Nat) (ao : Option Addr) (n cap : Nat) : Prop where
  form : SForm ao n cap
  le : off + n ≤ N
  blk : ∀ b o, ao = some ⟨b, o, none⟩ → 0 < n → b = A
  has : ∀ W L, W.heap[A]? = some (.cells (byteRow L) 5 (0, 0)) → N ≤ L.length → BytesAt W ao n ((L.drop off).take n)
theorem VOk.part {A N off : Nat} {ao ao' : Option Addr} {n cap a m cap' : Nat} (h : VOk A N off ao n cap) (ham : a + m ≤ n) (hf : SForm ao' m cap') (hb : ∀ W l, BytesAt W ao n l → BytesAt W ao' m ((l.drop a).take m)) (hi : ∀ b o, ao' = some ⟨b, o, none⟩ → 0 < m → ∃ o0, ao = some ⟨b, o0, none⟩) : VOk A N (off + a) ao' m cap' :=
  ⟨hf, by have := h.le; omega, fun b o e hm => by
    obtain ⟨o0, e0⟩ := hi b o e hm
    exact h.blk b o0 e0 (by omega), fun W L h1 h2 => by
    have := hb W _ (h.has W L h1 h2)
    have e : (((L.drop off).take n).drop a).take m = (L.drop (off + a)).take m := by
      rw [List.drop_take, List.drop_drop, List.take_take]
      congr 1
      omega
    rwa [e] at this⟩
theorem SForm.full {ao : Option Addr} {n cap : Nat} (h : SForm ao n cap) : SForm ao n n := by
  obtain ⟨h1, h2, h3⟩ := h
  refine ⟨Nat.le_refl _, by omega, ?_⟩
  rcases h3 with h3 | h3
  · exact .inl (by omega)
  · exact .inr h3
theorem VOk.full {A N off : Nat} {ao : Option Addr} {n cap : Nat} (h : VOk A N off ao n cap) : VOk A N off ao n n := ⟨h.form.full, h.le, h.blk, h.has⟩
theorem VOk.head (A N cap : Nat) (h : N ≤ cap) (hc : cap ≤ 9223372036854775807) : VOk A N 0 (some ⟨A, 0, none⟩) N cap :=
  ⟨⟨h, hc, .inr ⟨A, 0, rfl⟩⟩, by omega, fun b o e _ => by simp at e; exact e.1.symm, fun W L h1 h2 _ => ⟨A, 0, rfl, fun k hk => by
    rw [cell_of_row W A (0 + k) _ _ _ h1]
    simp [byteRow, hk, List.getElem?_eq_getElem (show k < L.length by omega)]⟩⟩
theorem VOk.nil (A N : Nat) : VOk A N 0 none 0 0 := ⟨⟨Nat.le_refl _, by omega, .inl rfl⟩, by omega, fun _ _ _ h => by omega, fun _ _ _ _ h => by omega⟩
/-- what stays -/
structure Cn where
  m : Nat
  A : Nat
  N : Nat
  q1 : Nat
  q2 : Nat
/-- a view, the document's, who watches -/
structure Sn where
  ao : Option Addr
  n : Nat
  cap : Nat
  off : Nat
  ao' : Option Addr
  cap' : Nat
  who : Nat
def qOf (c : Cn) : Nat → Option Nat
  | 1 => some c.q1
  | 2 => some c.q2
  | _ => none
def ptr (q : Option Nat) : Value := .pointer (q.map fun b => ⟨b, 0, none⟩)
def snC (c : Cn) (s : Sn) : List Value := [.slice s.ao s.n s.cap, .int .i64 s.off, .pointer ((qOf c s.who).map fun b => ⟨b, 0, none⟩), .slice s.ao' s.n s.cap', .int .i64 s.off, .int .i64 s.who]
structure SnOk (c : Cn) (s : Sn) : Prop where
  v : VOk c.A c.N s.off s.ao s.n s.cap
  r : VOk c.A c.N s.off s.ao' s.n s.cap'
  who : s.who ≤ 2
def rwV (s : Sn) : Value := .slice s.ao s.n s.n
def rfC (s : Sn) : List Value := [.slice s.ao' s.n s.cap', .int .i64 s.off]
/-- what changes -/
structure Gh where
  L : List Int
  S : List Sn
  gq1 : Option Nat
  gq2 : Option Nat
  w1 : List (Int × Int)
  w2 : List (Int × Int)
  t1 : List (Int × Int)
  t2 : List (Int × Int)
  D9 : List Sn
  D10 : List Sn
  v2 : Value
  v7 : Value
  v8 : Value
  v9 : Value
  v10 : Value
  v11 : Value
  v12 : Value
  v13 : Value
  v14 : Value
  N1 : Nat
  N2 : Nat
  N4 : Nat
  N8 : Nat
  R1 : Nat → Value
  R2 : Nat → Value
  R4 : Nat → Value
  R8 : Nat → Value
  l1 : Nat → Nat
  l2 : Nat → Nat
  l4 : Nat → Nat
  l8 : Nat → Nat
inductive Ix where
  | all | room | seen | w1 | w2 | t1 | t2 | r9 | r10 | n1 | n2 | n4 | n8
def csOf (c : Cn) (g : Gh) : Array Value := #[.slice (some ⟨c.A, 0, none⟩) (c.N + 9) (c.N + 9), .int .i64 c.N, g.v2, .pointer none, .pointer (some ⟨c.q1, 0, none⟩), .pointer (some ⟨c.q2, 0, none⟩), .slice none 0 0, g.v7, g.v8, g.v9, g.v10, g.v11, g.v12, g.v13, g.v14]
/-- the blocks of a part of the room -/
def ft (c : Cn) (g : Gh) (i : Ix) (b : Nat) : Prop := match i with
  | .all => b = c.A
  | .room => b = c.m
  | .seen => g.v2.ownBlock = some b
  | .w1 => c.q1 = b ∨ g.gq1 = some b
  | .w2 => c.q2 = b ∨ g.gq2 = some b
  | .t1 => g.v7.ownBlock = some b
  | .t2 => g.v8.ownBlock = some b
  | .r9 => g.v9.ownBlock = some b
  | .r10 => g.v10.ownBlock = some b
  | .n1 => g.v11.ownBlock = some b ∨ ∃ i, i < g.N1 ∧ (g.R1 i).ownBlock = some b
  | .n2 => g.v12.ownBlock = some b ∨ ∃ i, i < g.N2 ∧ (g.R2 i).ownBlock = some b
  | .n4 => g.v13.ownBlock = some b ∨ ∃ i, i < g.N4 ∧ (g.R4 i).ownBlock = some b
  | .n8 => g.v14.ownBlock = some b ∨ ∃ i, i < g.N8 ∧ (g.R8 i).ownBlock = some b
def mk1 (i : Nat) : Int := IntKind.u8.wrap ((i : Int) + 1)
def mk2 (i : Nat) : Int := IntKind.u16.wrap ((i : Int) + 1)
def mk4 (i : Nat) : Int := IntKind.u32.wrap ((i : Int) + 1)
def mk8 (i : Nat) : Int := IntKind.u64.wrap ((i : Int) + 1)
/-- what a part of the room holds -/
def cm (c : Cn) (g : Gh) (w : World) (i : Ix) : Prop := match i with
  | .all => w.heap[c.A]? = some (.cells (byteRow g.L) 5 (0, 0))
  | .room => w.heap[c.m]? = some (.cells (csOf c g) 87 (0, 0))
  | .seen => w.ownsRow 0 93 6 g.v2 g.S.length (g.S.flatMap (snC c))
  | .w1 => WatchAt w c.q1 g.gq1 g.w1
  | .w2 => WatchAt w c.q2 g.gq2 g.w2
  | .t1 => w.ownsRow 0 50 2 g.v7 g.t1.length (readCells g.t1)
  | .t2 => w.ownsRow 0 50 2 g.v8 g.t2.length (readCells g.t2)
  | .r9 => w.ownsRow 0 22 1 g.v9 g.D9.length (g.D9.map rwV)
  | .r10 => w.ownsRow 0 91 2 g.v10 g.D10.length (g.D10.flatMap rfC)
  | .n1 => NL 0 w 22 5 .u8 mk1 g.v11 g.N1 g.R1 g.l1
  | .n2 => NL 0 w 103 104 .u16 mk2 g.v12 g.N2 g.R2 g.l2
  | .n4 => NL 0 w 105 106 .u32 mk4 g.v13 g.N4 g.R4 g.l4
  | .n8 => NL 0 w 107 46 .u64 mk8 g.v14 g.N8 g.R8 g.l8
theorem WatchAt.loc {w w' : World} {q : Nat} {gq : Option Nat} {rs : List (Int × Int)} (h : WatchAt w q gq rs) (hk : ∀ b, (q = b ∨ gq = some b) → w'.heap[b]? = w.heap[b]?) : WatchAt w' q gq rs := by
  obtain ⟨v, hv, hown, hb⟩ := h
  exact ⟨v, (hk q (.inl rfl)).trans hv, row_kp hown fun b e => hk b (.inr (hb ▸ e)), hb⟩
theorem NL.loc {B : Nat} {W W' : World} {it et : Nat} {kd : IntKind} {mk : Nat → Int} {v : Value} {N : Nat} {R : Nat → Value} {len : Nat → Nat} (h : NL B W it et kd mk v N R len) (k : ∀ b, (v.ownBlock = some b ∨ ∃ i, i < N ∧ (R i).ownBlock = some b) → W'.heap[b]? = W.heap[b]?) : NL B W' it et kd mk v N R len :=
  ⟨row_kp h.outer fun b e => k b (.inl e), h.onew, fun i hi' => by
    obtain ⟨xs, h1, h2⟩ := h.inner i hi'
    exact ⟨xs, row_kp h1 fun b e => k b (.inr ⟨i, hi', e⟩), h2⟩, h.inew, h.apart⟩
theorem cm_loc {c : Cn} {g : Gh} {w w' : World} {i : Ix} (h : cm c g w i) (k : ∀ b, ft c g i b → w'.heap[b]? = w.heap[b]?) : cm c g w' i := by
  cases i with
  | all => exact (k _ rfl).trans h
  | room => exact (k _ rfl).trans h
  | seen => exact row_kp h k
  | w1 => exact WatchAt.loc h k
  | w2 => exact WatchAt.loc h k
  | t1 => exact row_kp h k
  | t2 => exact row_kp h k
  | r9 => exact row_kp h k
  | r10 => exact row_kp h k
  | n1 => exact NL.loc h k
  | n2 => exact NL.loc h k
  | n4 => exact NL.loc h k
  | n8 => exact NL.loc h k
structure Inv (c : Cn) (w : World) (g : Gh) : Prop where
  cm : ∀ i, cm c g w i
  lt : ∀ i b, ft c g i b → b < w.heap.size
  ap : ∀ i j b, ft c g i b → ft c g j b → i = j
/-- from one state of the room to the next: its blocks are old ones, new ones, or of F; what is not the room's, and not of F, is as it was -/
structure Go (c : Cn) (F : Nat → Prop) (w : World) (g : Gh) (w' : World) (g' : Gh) : Prop where
  inv : Inv c w' g'
  new : ∀ i b, ft c g' i b → ft c g i b ∨ w.heap.size ≤ b ∨ F b
  size : w.heap.size ≤ w'.heap.size
  kp : ∀ b, b < w.heap.size → (∀ i, ¬ ft c g i b) → ¬ F b → w'.heap[b]? = w.heap[b]?
  os : w'.os = w.os
  tape : w'.tape = w.tape
  output : w'.output = w.output
def NoF (_ : Nat) : Prop := False
theorem Go.trans {c : Cn} {F G : Nat → Prop} {w w1 w2 : World} {g g1 g2 : Gh} (h : Go c F w g w1 g1) (k : Go c G w1 g1 w2 g2) (hG : ∀ b, G b → F b ∨ w.heap.size ≤ b) : Go c F w g w2 g2 := by
  refine ⟨k.inv, fun i b hb => ?_, Nat.le_trans h.size k.size, fun b hb hn hf => ?_, k.os.trans h.os, k.tape.trans h.tape, k.output.trans h.output⟩
  · rcases k.new i b hb with h1 | h1 | h1
    · exact h.new i b h1
    · exact .inr (.inl (Nat.le_trans h.size h1))
    · rcases hG b h1 with h2 | h2
      · exact .inr (.inr h2)
      · exact .inr (.inl h2)
  · refine (k.kp b (Nat.lt_of_lt_of_le hb h.size) (fun i hi => ?_) (fun hg => ?_)).trans (h.kp b hb hn hf)
    · rcases h.new i b hi with h1 | h1 | h1
      · exact hn i h1
      · omega
      · exact hf h1
    · rcases hG b hg with h2 | h2
      · exact hf h2
      · omega
theorem Go.box {c : Cn} {w w' : World} {g g' : Gh} {b : Nat} {x : Obj} (h : Go c NoF w g w' g') (hb : w.heap[b]? = some x) (hn : ∀ i, ¬ ft c g i b) : w'.heap[b]? = some x ∧ ∀ i, ¬ ft c g' i b := by
  have hl := (Array.getElem?_eq_some_iff.1 hb).1
  refine ⟨(h.kp b hl hn id).trans hb, fun i hi => ?_⟩
  rcases h.new i b hi with h1 | h1 | h1
  · exact hn i h1
  · omega
  · exact h1
theorem Inv.step {c : Cn} {g g' : Gh} {w w' : World} (k : Ix) (F : Nat → Prop) (h : Inv c w g) (hF : ∀ b, F b → ∀ i, ¬ ft c g i b) (hk : Keeps w w' (fun b => ft c g k b ∨ b = c.m ∨ F b)) (hr : k ≠ .room)
    (room : Kit.cm c g' w' .room) (same : ∀ j, j ≠ k → j ≠ .room → (Kit.cm c g w' j → Kit.cm c g' w' j) ∧ ∀ b, ft c g' j b → ft c g j b)
    (new : Kit.cm c g' w' k) (nft : ∀ b, ft c g' k b → ft c g k b ∨ (w.heap.size ≤ b ∧ b < w'.heap.size) ∨ (F b ∧ b < w'.heap.size)) 
    : Go c F w g w' g' := by
  have down : ∀ j, j ≠ k → ∀ b, ft c g' j b → ft c g j b := fun j hj b hb => by
    by_cases e : j = .room
    · subst e; exact hb
    · exact (same j hj e).2 b hb
  refine ⟨⟨fun j => ?_, fun j b hb => ?_, fun i j b hi hj => ?_⟩, fun j b hb => ?_, hk.size, fun b hb hn hf => hk.block b hb fun e => ?_, hk.os, hk.tape, hk.output⟩
  · by_cases e : j = k
    · subst e; exact new
    · by_cases e2 : j = .room
      · subst e2; exact room
      · refine (same j e e2).1 (cm_loc (h.cm j) fun b hb => hk.block b (h.lt j b hb) ?_)
        rintro (h1 | h1 | h1)
        · exact e (h.ap j k b hb h1)
        · exact e2 (h.ap j .room b hb h1)
        · exact hF b h1 j hb
  · by_cases e : j = k
    · subst e
      rcases nft b hb with h1 | h1 | h1
      · exact Nat.lt_of_lt_of_le (h.lt _ b h1) hk.size
      · exact h1.2
      · exact h1.2
    · exact Nat.lt_of_lt_of_le (h.lt j b (down j e b hb)) hk.size
  · have one : ∀ j, j ≠ k → ft c g' k b → ft c g' j b → False := fun j hj h1 h2 => by
      have h3 := down j hj b h2
      rcases nft b h1 with h4 | h4 | h4
      · exact hj (h.ap j k b h3 h4)
      · have := h.lt j b h3; omega
      · exact hF b h4.1 j h3
    by_cases e : i = k
    · subst e
      by_cases e2 : j = i
      · exact e2.symm
      · exact (one j e2 hi hj).elim
    · by_cases e2 : j = k
      · subst e2; exact (one i e hj hi).elim
      · exact h.ap i j b (down i e b hi) (down j e2 b hj)
  · by_cases e : j = k
    · subst e
      rcases nft b hb with h1 | h1 | h1
      · exact .inl h1
      · exact .inr (.inl h1.1)
      · exact .inr (.inr h1.1)
    · exact .inl (down j e b hb)
  · rcases e with e | e | e
    · exact hn k e
    · exact hn .room e
    · exact hf e
theorem Inv.idle {c : Cn} {g : Gh} {w w' : World} (h : Inv c w g) (k : Keeps w w' (fun _ => False)) : Inv c w' g :=
  ⟨fun j => cm_loc (h.cm j) fun b hb => k.block b (h.lt j b hb) id, fun j b hb => Nat.lt_of_lt_of_le (h.lt j b hb) k.size, h.ap⟩
theorem Inv.rest0 {c : Cn} {g : Gh} {w w' : World} (h : Inv c w g) (k : Keeps w w' (fun _ => False)) : Go c NoF w g w' g := ⟨h.idle k, fun _ _ e => .inl e, k.size, fun b hb _ _ => k.block b hb id, k.os, k.tape, k.output⟩
theorem Inv.out {c : Cn} {g : Gh} {w : World} (h : Inv c w g) {b : Nat} (hb : w.heap.size ≤ b) : ∀ i, ¬ ft c g i b := fun i hi => by have := h.lt i b hi; omega
theorem Inv.room {c : Cn} {g : Gh} {w : World} (h : Inv c w g) : w.heap[c.m]? = some (.cells (csOf c g) 87 (0, 0)) := h.cm .room
theorem Inv.cell {c : Cn} {g : Gh} {w : World} (h : Inv c w g) {j : Nat} {u : Value} (hu : (csOf c g)[j]? = some u) : w.cell? ⟨c.m, j, none⟩ = some u := by
  rw [cell_of_row w c.m j _ 87 (0, 0) h.room]; exact hu
/-- the room's cells are kept, where something else is changed -/
theorem Inv.others {c : Cn} {g : Gh} {w w' : World} (h : Inv c w g) {S : Nat → Prop} {i : Ix} (k : Keeps w w' S) (hS : ∀ b, S b → ¬ ft c g i b) : Kit.cm c g w' i :=
  cm_loc (h.cm i) fun b hb => k.block b (h.lt i b hb) fun hs => hS b hs hb
end Go.Proofs.Ytomlndoffoeaiaa.Kit
namespace Go.Proofs.Ytomlndoffoeaiaa.Kit
open Go.RowKit Go.Deep
set_option linter.unusedVariables false

/-! ### what a step does to the room -/
def gqOf (g : Gh) : Nat → Option Nat
  | 1 => g.gq1
  | 2 => g.gq2
  | _ => none
def wOf (g : Gh) : Nat → List (Int × Int)
  | 1 => g.w1
  | 2 => g.w2
  | _ => []
def tOf (g : Gh) : Nat → List (Int × Int)
  | 1 => g.t1
  | 2 => g.t2
  | _ => []
def setW (g : Gh) (who : Nat) (q : Option Nat) (rs : List (Int × Int)) : Gh := match who with
  | 1 => { g with gq1 := q, w1 := rs }
  | 2 => { g with gq2 := q, w2 := rs }
  | _ => g
def setT (g : Gh) (who : Nat) (v : Value) (rs : List (Int × Int)) : Gh := match who with
  | 1 => { g with v7 := v, t1 := rs }
  | 2 => { g with v8 := v, t2 := rs }
  | _ => g
theorem Inv.wat1 {c : Cn} {g : Gh} {w w' : World} {rs : List (Int × Int)} (h : Inv c w g) (hd : WatDone w w' (some c.q1) g.gq1 rs) : ∃ gq', Go c NoF w g w' { g with gq1 := gq', w1 := rs } := by
  obtain ⟨gq', h1, h2, h3⟩ := hd
  have h1' : WatchAt w' c.q1 gq' rs := h1
  refine ⟨gq', Inv.step .w1 NoF h (fun _ f => f.elim) (h2.mono fun b _ e => .inl ?_) (by simp) ?_ ?_ h1' ?_⟩
  · rcases e with e | e
    · exact .inl (Option.some.inj e)
    · exact .inr e
  · refine h.others (i := .room) h2 fun b hb hr => ?_
    have : Ix.w1 = Ix.room := h.ap _ _ b (hb.imp (fun e => Option.some.inj e) id) hr
    cases this
  · intro j hj hr
    cases j <;> first | exact absurd rfl hj | exact ⟨id, fun _ e => e⟩
  · intro b hb
    rcases hb with e | e
    · exact .inl (.inl e)
    · rcases h3 with h3 | h3
      · exact .inl (.inr (h3 ▸ e))
      · exact .inr (.inl ⟨h3 b e, h1'.lt.2 b e⟩)
theorem Inv.wat2 {c : Cn} {g : Gh} {w w' : World} {rs : List (Int × Int)} (h : Inv c w g) (hd : WatDone w w' (some c.q2) g.gq2 rs) : ∃ gq', Go c NoF w g w' { g with gq2 := gq', w2 := rs } := by
  obtain ⟨gq', h1, h2, h3⟩ := hd
  have h1' : WatchAt w' c.q2 gq' rs := h1
  refine ⟨gq', Inv.step .w2 NoF h (fun _ f => f.elim) (h2.mono fun b _ e => .inl ?_) (by simp) ?_ ?_ h1' ?_⟩
  · rcases e with e | e
    · exact .inl (Option.some.inj e)
    · exact .inr e
  · refine h.others (i := .room) h2 fun b hb hr => ?_
    have : Ix.w2 = Ix.room := h.ap _ _ b (hb.imp (fun e => Option.some.inj e) id) hr
    cases this
  · intro j hj hr
    cases j <;> first | exact absurd rfl hj | exact ⟨id, fun _ e => e⟩
  · intro b hb
    rcases hb with e | e
    · exact .inl (.inl e)
    · rcases h3 with h3 | h3
      · exact .inl (.inr (h3 ▸ e))
      · exact .inr (.inl ⟨h3 b e, h1'.lt.2 b e⟩)
theorem Inv.told1 {c : Cn} {g : Gh} {w w' : World} {rs : List (Int × Int)} (h : Inv c w g) (hd : ToldDone w w' c.m 7 (csOf c g) g.v7 rs) : ∃ v', Go c NoF w g w' { g with v7 := v', t1 := rs } := by
  obtain ⟨v', h0, h1, h2, h3⟩ := hd
  refine ⟨v', Inv.step .t1 NoF h (fun _ f => f.elim) (h2.mono fun b _ e => ?_) (by simp) ?_ ?_ h1 ?_⟩
  · rcases e with e | e
    · exact .inr (.inl e)
    · exact .inl e
  · have e : (csOf c g).setIfInBounds 7 v' = csOf c { g with v7 := v', t1 := rs } := by simp [csOf]
    rw [e] at h0
    exact h0
  · intro j hj hr
    cases j <;> first | exact absurd rfl hj | exact absurd rfl hr | exact ⟨id, fun _ e => e⟩
  · intro b hb
    rcases h3 with h3 | h3
    · exact .inl (h3.symm.trans hb)
    · exact .inr (.inl ⟨h3 b hb, own_lt h1 b hb⟩)
theorem Inv.told2 {c : Cn} {g : Gh} {w w' : World} {rs : List (Int × Int)} (h : Inv c w g) (hd : ToldDone w w' c.m 8 (csOf c g) g.v8 rs) : ∃ v', Go c NoF w g w' { g with v8 := v', t2 := rs } := by
  obtain ⟨v', h0, h1, h2, h3⟩ := hd
  refine ⟨v', Inv.step .t2 NoF h (fun _ f => f.elim) (h2.mono fun b _ e => ?_) (by simp) ?_ ?_ h1 ?_⟩
  · rcases e with e | e
    · exact .inr (.inl e)
    · exact .inl e
  · have e : (csOf c g).setIfInBounds 8 v' = csOf c { g with v8 := v', t2 := rs } := by simp [csOf]
    rw [e] at h0
    exact h0
  · intro j hj hr
    cases j <;> first | exact absurd rfl hj | exact absurd rfl hr | exact ⟨id, fun _ e => e⟩
  · intro b hb
    rcases h3 with h3 | h3
    · exact .inl (h3.symm.trans hb)
    · exact .inr (.inl ⟨h3 b hb, own_lt h1 b hb⟩)
theorem Inv.join {c : Cn} {g : Gh} {w w' : World} {s : Sn} (h : Inv c w g) (hd : RowDone w w' c.m 2 93 6 (csOf c g) g.v2 (g.S.length + 1) (g.S.flatMap (snC c) ++ snC c s)) : ∃ v', Go c NoF w g w' { g with v2 := v', S := g.S ++ [s] } := by
  obtain ⟨v', h0, h1, h2, h3⟩ := hd
  refine ⟨v', Inv.step .seen NoF h (fun _ f => f.elim) (h2.mono fun b _ e => ?_) (by simp) ?_ ?_ ?_ ?_⟩
  · rcases e with e | e
    · exact .inr (.inl e)
    · exact .inl e
  · have e : (csOf c g).setIfInBounds 2 v' = csOf c { g with v2 := v', S := g.S ++ [s] } := by simp [csOf]
    rw [e] at h0
    exact h0
  · intro j hj hr
    cases j <;> first | exact absurd rfl hj | exact absurd rfl hr | exact ⟨id, fun _ e => e⟩
  · show w'.ownsRow 0 93 6 v' (g.S ++ [s]).length _
    simpa [List.flatMap_append] using h1
  · intro b hb
    rcases h3 with h3 | h3
    · exact .inl (h3.symm.trans hb)
    · exact .inr (.inl ⟨h3 b hb, own_lt h1 b hb⟩)
theorem Inv.raw9 {c : Cn} {g : Gh} {w w' : World} {s : Sn} (h : Inv c w g) (hd : RowDone w w' c.m 9 22 1 (csOf c g) g.v9 (g.D9.length + 1) (g.D9.map rwV ++ [rwV s])) : ∃ v', Go c NoF w g w' { g with v9 := v', D9 := g.D9 ++ [s] } := by
  obtain ⟨v', h0, h1, h2, h3⟩ := hd
  refine ⟨v', Inv.step .r9 NoF h (fun _ f => f.elim) (h2.mono fun b _ e => ?_) (by simp) ?_ ?_ ?_ ?_⟩
  · rcases e with e | e
    · exact .inr (.inl e)
    · exact .inl e
  · have e : (csOf c g).setIfInBounds 9 v' = csOf c { g with v9 := v', D9 := g.D9 ++ [s] } := by simp [csOf]
    rw [e] at h0
    exact h0
  · intro j hj hr
    cases j <;> first | exact absurd rfl hj | exact absurd rfl hr | exact ⟨id, fun _ e => e⟩
  · show w'.ownsRow 0 22 1 v' (g.D9 ++ [s]).length _
    simpa [List.map_append] using h1
  · intro b hb
    rcases h3 with h3 | h3
    · exact .inl (h3.symm.trans hb)
    · exact .inr (.inl ⟨h3 b hb, own_lt h1 b hb⟩)
theorem Inv.of10 {c : Cn} {g : Gh} {w w' : World} {s : Sn} (h : Inv c w g) (hd : RowDone w w' c.m 10 91 2 (csOf c g) g.v10 (g.D10.length + 1) (g.D10.flatMap rfC ++ rfC s)) : ∃ v', Go c NoF w g w' { g with v10 := v', D10 := g.D10 ++ [s] } := by
  obtain ⟨v', h0, h1, h2, h3⟩ := hd
  refine ⟨v', Inv.step .r10 NoF h (fun _ f => f.elim) (h2.mono fun b _ e => ?_) (by simp) ?_ ?_ ?_ ?_⟩
  · rcases e with e | e
    · exact .inr (.inl e)
    · exact .inl e
  · have e : (csOf c g).setIfInBounds 10 v' = csOf c { g with v10 := v', D10 := g.D10 ++ [s] } := by simp [csOf]
    rw [e] at h0
    exact h0
  · intro j hj hr
    cases j <;> first | exact absurd rfl hj | exact absurd rfl hr | exact ⟨id, fun _ e => e⟩
  · show w'.ownsRow 0 91 2 v' (g.D10 ++ [s]).length _
    simpa [List.flatMap_append] using h1
  · intro b hb
    rcases h3 with h3 | h3
    · exact .inl (h3.symm.trans hb)
    · exact .inr (.inl ⟨h3 b hb, own_lt h1 b hb⟩)
theorem Inv.write {c : Cn} {g : Gh} {w W : World} {j : Nat} {x : Int} (h : Inv c w g) (k : Keeps w W (fun _ => False)) : Go c NoF w g (W.setCell ⟨c.A, j, none⟩ (.int .u8 x)) { g with L := g.L.set j x } := by
  have hW := h.idle k
  have ha : W.heap[c.A]? = some (.cells (byteRow g.L) 5 (0, 0)) := hW.cm .all
  have k2 : Keeps W (W.setCell ⟨c.A, j, none⟩ (.int .u8 x)) (fun b => b = c.A) := (Keeps.refl W (fun b => b = c.A)).setCell (p := ⟨c.A, j, none⟩) (fun _ => rfl) _
  refine (h.rest0 k).trans (Inv.step .all NoF hW (fun _ f => f.elim) (k2.mono fun b _ e => .inl e) (by simp) ?_ ?_ ?_ (fun b hb => .inl hb)) (fun _ f => f.elim)
  · refine hW.others (i := .room) k2 fun b hb hr => ?_
    have : Ix.all = Ix.room := hW.ap _ _ b hb hr
    cases this
  · intro j hj hr
    cases j <;> first | exact absurd rfl hj | exact absurd rfl hr | exact ⟨id, fun _ e => e⟩
  · have := heap_setCell_same W c.A j _ 5 (.int .u8 x) ha
    show (W.setCell ⟨c.A, j, none⟩ (.int .u8 x)).heap[c.A]? = some (.cells (byteRow (g.L.set j x)) 5 (0, 0))
    rw [this]
    simp [byteRow, List.map_set]
theorem NL.grow {w w' : World} {it et m : Nat} {kd : IntKind} {mk : Nat → Int} {v v' u : Value} {N n : Nat} {R : Nat → Value} {len : Nat → Nat} {xs : List Value} (h : NL 0 w it et kd mk v N R len) (hne : it ≠ et)
    (hk : Keeps w w' (fun b => v.ownBlock = some b ∨ b = m ∨ u.ownBlock = some b)) (hm : ∀ i, i < N → (R i).ownBlock ≠ some m) (hu : ∀ i, i < N → ∀ b, u.ownBlock = some b → (R i).ownBlock ≠ some b)
    (ho : w'.ownsRow 0 it 1 v' (N + 1) ((List.range N).map R ++ [u])) (hi : w'.ownsRow 0 et 1 u n xs) (hx : ∀ j, j < n → xs[j]? = some (.int kd (mk N))) :
    NL 0 w' it et kd mk v' (N + 1) (fun j => if j = N then u else R j) (fun j => if j = N then n else len j) := by
  refine NL.push ho (fun _ _ => Nat.zero_le _) (fun i hi' => ?_) (fun _ _ _ _ => Nat.zero_le _) h.apart hi hx (fun _ _ => Nat.zero_le _) (fun i hi' b e => hu i hi' b e)
  obtain ⟨ys, h1, h2⟩ := h.inner i hi'
  refine ⟨ys, row_kp h1 fun b e => hk.block b (own_lt h1 b e) ?_, h2⟩
  rintro (q | q | q)
  · obtain ⟨c1, e1⟩ := own_ty h.outer b q
    obtain ⟨c2, e2⟩ := own_ty h1 b e
    rw [e1] at e2
    simp at e2
    exact hne e2.2
  · exact hm i hi' (q ▸ e)
  · exact hu i hi' b q e
theorem Inv.nl1 {c : Cn} {g : Gh} {w w' : World} {v' u : Value} {n : Nat} {xs : List Value} (h : Inv c w g) (hk : Keeps w w' (fun b => g.v11.ownBlock = some b ∨ b = c.m ∨ u.ownBlock = some b)) (hu : ∀ b, u.ownBlock = some b → ∀ i, ¬ ft c g i b)
    (hr : w'.heap[c.m]? = some (.cells ((csOf c g).setIfInBounds 11 v') 87 (0, 0))) (ho : w'.ownsRow 0 22 1 v' (g.N1 + 1) ((List.range g.N1).map g.R1 ++ [u])) (hb : v'.ownBlock = g.v11.ownBlock ∨ ∀ b, v'.ownBlock = some b → w.heap.size ≤ b)
    (hi : w'.ownsRow 0 5 1 u n xs) (hx : ∀ j, j < n → xs[j]? = some (.int .u8 (mk1 g.N1))) :
    Go c (fun b => u.ownBlock = some b) w g w' { g with v11 := v', N1 := g.N1 + 1, R1 := fun j => if j = g.N1 then u else g.R1 j, l1 := fun j => if j = g.N1 then n else g.l1 j } := by
  have hn : NL 0 w 22 5 .u8 mk1 g.v11 g.N1 g.R1 g.l1 := h.cm .n1
  refine Inv.step .n1 (fun b => u.ownBlock = some b) h (fun b e => hu b e) (hk.mono fun b _ e => ?_) (by simp) ?_ ?_ ?_ ?_
  · rcases e with e | e | e
    · exact .inl (.inl e)
    · exact .inr (.inl e)
    · exact .inr (.inr e)
  · have e : (csOf c g).setIfInBounds 11 v' = csOf c { g with v11 := v', N1 := g.N1 + 1, R1 := fun j => if j = g.N1 then u else g.R1 j, l1 := fun j => if j = g.N1 then n else g.l1 j } := by simp [csOf]
    rw [e] at hr
    exact hr
  · intro j hj hr
    cases j <;> first | exact absurd rfl hj | exact absurd rfl hr | exact ⟨id, fun _ e => e⟩
  · refine NL.grow hn (by omega) hk (fun i hi' e => ?_) (fun i hi' b e e2 => ?_) ho hi hx
    · have : Ix.n1 = Ix.room := h.ap _ _ c.m (.inr ⟨i, hi', e⟩) rfl
      cases this
    · exact hu b e .n1 (.inr ⟨i, hi', e2⟩)
  · intro b e
    have hin : ∀ b, u.ownBlock = some b → b < w'.heap.size := fun b e => own_lt hi b e
    rcases e with e | ⟨i, hi', e⟩
    · rcases hb with hb | hb
      · exact .inl (.inl (hb ▸ e))
      · exact .inr (.inl ⟨hb b e, own_lt ho b e⟩)
    · by_cases hj : i = g.N1
      · simp only [if_pos hj] at e
        exact .inr (.inr ⟨e, hin b e⟩)
      · simp only [if_neg hj] at e
        have hlt : i < g.N1 + 1 := hi'
        exact .inl (.inr ⟨i, by omega, e⟩)
theorem Inv.nl2 {c : Cn} {g : Gh} {w w' : World} {v' u : Value} {n : Nat} {xs : List Value} (h : Inv c w g) (hk : Keeps w w' (fun b => g.v12.ownBlock = some b ∨ b = c.m ∨ u.ownBlock = some b)) (hu : ∀ b, u.ownBlock = some b → ∀ i, ¬ ft c g i b)
    (hr : w'.heap[c.m]? = some (.cells ((csOf c g).setIfInBounds 12 v') 87 (0, 0))) (ho : w'.ownsRow 0 103 1 v' (g.N2 + 1) ((List.range g.N2).map g.R2 ++ [u])) (hb : v'.ownBlock = g.v12.ownBlock ∨ ∀ b, v'.ownBlock = some b → w.heap.size ≤ b)
    (hi : w'.ownsRow 0 104 1 u n xs) (hx : ∀ j, j < n → xs[j]? = some (.int .u16 (mk2 g.N2))) :
    Go c (fun b => u.ownBlock = some b) w g w' { g with v12 := v', N2 := g.N2 + 1, R2 := fun j => if j = g.N2 then u else g.R2 j, l2 := fun j => if j = g.N2 then n else g.l2 j } := by
  have hn : NL 0 w 103 104 .u16 mk2 g.v12 g.N2 g.R2 g.l2 := h.cm .n2
  refine Inv.step .n2 (fun b => u.ownBlock = some b) h (fun b e => hu b e) (hk.mono fun b _ e => ?_) (by simp) ?_ ?_ ?_ ?_
  · rcases e with e | e | e
    · exact .inl (.inl e)
    · exact .inr (.inl e)
    · exact .inr (.inr e)
  · have e : (csOf c g).setIfInBounds 12 v' = csOf c { g with v12 := v', N2 := g.N2 + 1, R2 := fun j => if j = g.N2 then u else g.R2 j, l2 := fun j => if j = g.N2 then n else g.l2 j } := by simp [csOf]
    rw [e] at hr
    exact hr
  · intro j hj hr
    cases j <;> first | exact absurd rfl hj | exact absurd rfl hr | exact ⟨id, fun _ e => e⟩
  · refine NL.grow hn (by omega) hk (fun i hi' e => ?_) (fun i hi' b e e2 => ?_) ho hi hx
    · have : Ix.n2 = Ix.room := h.ap _ _ c.m (.inr ⟨i, hi', e⟩) rfl
      cases this
    · exact hu b e .n2 (.inr ⟨i, hi', e2⟩)
  · intro b e
    have hin : ∀ b, u.ownBlock = some b → b < w'.heap.size := fun b e => own_lt hi b e
    rcases e with e | ⟨i, hi', e⟩
    · rcases hb with hb | hb
      · exact .inl (.inl (hb ▸ e))
      · exact .inr (.inl ⟨hb b e, own_lt ho b e⟩)
    · by_cases hj : i = g.N2
      · simp only [if_pos hj] at e
        exact .inr (.inr ⟨e, hin b e⟩)
      · simp only [if_neg hj] at e
        have hlt : i < g.N2 + 1 := hi'
        exact .inl (.inr ⟨i, by omega, e⟩)
theorem Inv.nl4 {c : Cn} {g : Gh} {w w' : World} {v' u : Value} {n : Nat} {xs : List Value} (h : Inv c w g) (hk : Keeps w w' (fun b => g.v13.ownBlock = some b ∨ b = c.m ∨ u.ownBlock = some b)) (hu : ∀ b, u.ownBlock = some b → ∀ i, ¬ ft c g i b)
    (hr : w'.heap[c.m]? = some (.cells ((csOf c g).setIfInBounds 13 v') 87 (0, 0))) (ho : w'.ownsRow 0 105 1 v' (g.N4 + 1) ((List.range g.N4).map g.R4 ++ [u])) (hb : v'.ownBlock = g.v13.ownBlock ∨ ∀ b, v'.ownBlock = some b → w.heap.size ≤ b)
    (hi : w'.ownsRow 0 106 1 u n xs) (hx : ∀ j, j < n → xs[j]? = some (.int .u32 (mk4 g.N4))) :
    Go c (fun b => u.ownBlock = some b) w g w' { g with v13 := v', N4 := g.N4 + 1, R4 := fun j => if j = g.N4 then u else g.R4 j, l4 := fun j => if j = g.N4 then n else g.l4 j } := by
  have hn : NL 0 w 105 106 .u32 mk4 g.v13 g.N4 g.R4 g.l4 := h.cm .n4
  refine Inv.step .n4 (fun b => u.ownBlock = some b) h (fun b e => hu b e) (hk.mono fun b _ e => ?_) (by simp) ?_ ?_ ?_ ?_
  · rcases e with e | e | e
    · exact .inl (.inl e)
    · exact .inr (.inl e)
    · exact .inr (.inr e)
  · have e : (csOf c g).setIfInBounds 13 v' = csOf c { g with v13 := v', N4 := g.N4 + 1, R4 := fun j => if j = g.N4 then u else g.R4 j, l4 := fun j => if j = g.N4 then n else g.l4 j } := by simp [csOf]
    rw [e] at hr
    exact hr
  · intro j hj hr
    cases j <;> first | exact absurd rfl hj | exact absurd rfl hr | exact ⟨id, fun _ e => e⟩
  · refine NL.grow hn (by omega) hk (fun i hi' e => ?_) (fun i hi' b e e2 => ?_) ho hi hx
    · have : Ix.n4 = Ix.room := h.ap _ _ c.m (.inr ⟨i, hi', e⟩) rfl
      cases this
    · exact hu b e .n4 (.inr ⟨i, hi', e2⟩)
  · intro b e
    have hin : ∀ b, u.ownBlock = some b → b < w'.heap.size := fun b e => own_lt hi b e
    rcases e with e | ⟨i, hi', e⟩
    · rcases hb with hb | hb
      · exact .inl (.inl (hb ▸ e))
      · exact .inr (.inl ⟨hb b e, own_lt ho b e⟩)
    · by_cases hj : i = g.N4
      · simp only [if_pos hj] at e
        exact .inr (.inr ⟨e, hin b e⟩)
      · simp only [if_neg hj] at e
        have hlt : i < g.N4 + 1 := hi'
        exact .inl (.inr ⟨i, by omega, e⟩)
theorem Inv.nl8 {c : Cn} {g : Gh} {w w' : World} {v' u : Value} {n : Nat} {xs : List Value} (h : Inv c w g) (hk : Keeps w w' (fun b => g.v14.ownBlock = some b ∨ b = c.m ∨ u.ownBlock = some b)) (hu : ∀ b, u.ownBlock = some b → ∀ i, ¬ ft c g i b)
    (hr : w'.heap[c.m]? = some (.cells ((csOf c g).setIfInBounds 14 v') 87 (0, 0))) (ho : w'.ownsRow 0 107 1 v' (g.N8 + 1) ((List.range g.N8).map g.R8 ++ [u])) (hb : v'.ownBlock = g.v14.ownBlock ∨ ∀ b, v'.ownBlock = some b → w.heap.size ≤ b)
    (hi : w'.ownsRow 0 46 1 u n xs) (hx : ∀ j, j < n → xs[j]? = some (.int .u64 (mk8 g.N8))) :
    Go c (fun b => u.ownBlock = some b) w g w' { g with v14 := v', N8 := g.N8 + 1, R8 := fun j => if j = g.N8 then u else g.R8 j, l8 := fun j => if j = g.N8 then n else g.l8 j } := by
  have hn : NL 0 w 107 46 .u64 mk8 g.v14 g.N8 g.R8 g.l8 := h.cm .n8
  refine Inv.step .n8 (fun b => u.ownBlock = some b) h (fun b e => hu b e) (hk.mono fun b _ e => ?_) (by simp) ?_ ?_ ?_ ?_
  · rcases e with e | e | e
    · exact .inl (.inl e)
    · exact .inr (.inl e)
    · exact .inr (.inr e)
  · have e : (csOf c g).setIfInBounds 14 v' = csOf c { g with v14 := v', N8 := g.N8 + 1, R8 := fun j => if j = g.N8 then u else g.R8 j, l8 := fun j => if j = g.N8 then n else g.l8 j } := by simp [csOf]
    rw [e] at hr
    exact hr
  · intro j hj hr
    cases j <;> first | exact absurd rfl hj | exact absurd rfl hr | exact ⟨id, fun _ e => e⟩
  · refine NL.grow hn (by omega) hk (fun i hi' e => ?_) (fun i hi' b e e2 => ?_) ho hi hx
    · have : Ix.n8 = Ix.room := h.ap _ _ c.m (.inr ⟨i, hi', e⟩) rfl
      cases this
    · exact hu b e .n8 (.inr ⟨i, hi', e2⟩)
  · intro b e
    have hin : ∀ b, u.ownBlock = some b → b < w'.heap.size := fun b e => own_lt hi b e
    rcases e with e | ⟨i, hi', e⟩
    · rcases hb with hb | hb
      · exact .inl (.inl (hb ▸ e))
      · exact .inr (.inl ⟨hb b e, own_lt ho b e⟩)
    · by_cases hj : i = g.N8
      · simp only [if_pos hj] at e
        exact .inr (.inr ⟨e, hin b e⟩)
      · simp only [if_neg hj] at e
        have hlt : i < g.N8 + 1 := hi'
        exact .inl (.inr ⟨i, by omega, e⟩)
end Go.Proofs.Ytomlndoffoeaiaa.Kit
namespace Go.Proofs.Ytomlndoffoeaiaa.Kit
open Go.RowKit Go.Deep
set_option linter.unusedVariables false

/-- the room's list has been told -/
def TD (c : Cn) (g : Gh) (who : Nat) (W W' : World) (a b : Int) : Prop := match who with
  | 1 => ToldDone W W' c.m 7 (csOf c g) g.v7 (tellR (some c.q1) g.t1 a b)
  | 2 => ToldDone W W' c.m 8 (csOf c g) g.v8 (tellR (some c.q2) g.t2 a b)
  | _ => Keeps W W' (fun _ => False)
theorem ToldDone.idle {c : Cn} {g : Gh} {W W' : World} {off : Nat} {v : Value} {rs : List (Int × Int)} (hr : W.heap[c.m]? = some (.cells (csOf c g) 87 (0, 0))) (ho : W.ownsRow 0 50 2 v rs.length (readCells rs)) (hv : (csOf c g)[off]? = some v) (k : Keeps W W' (fun _ => False)) : ToldDone W W' c.m off (csOf c g) v rs := by
  refine ⟨v, ?_, ownN_kept ho k fun _ _ => id, k.mono fun _ _ f => f.elim, .inl rfl⟩
  have e : (csOf c g).setIfInBounds off v = csOf c g := by
    apply Array.ext_getElem?
    intro j
    by_cases hj : off = j
    · subst hj
      rw [Array.getElem?_setIfInBounds_self]
      obtain ⟨h1, h2⟩ := Array.getElem?_eq_some_iff.1 hv
      rw [if_pos h1, hv]
    · rw [Array.getElem?_setIfInBounds_ne hj]
  rw [e]
  exact k.row hr id
theorem tell_yes {q : Nat} {rs : List (Int × Int)} {a b : Int} (h : a < b) : tellR (some q) rs a b = rs ++ [(a, b)] := by simp [tellR, h]
theorem tell_no {q : Nat} {rs : List (Int × Int)} {a b : Int} (h : ¬ a < b) : tellR (some q) rs a b = rs := by simp [tellR, h]
theorem reads_td (c : Cn) (g : Gh) (x0 x1 x2 x3 : Value) (off who a n : Nat) (W : World) (hw : who ≤ 2) (hb : off + a + n ≤ 1000000000000) (hr : cm c g W .room) (h1 : cm c g W .t1) (h2 : cm c g W .t2) (l1 : g.t1.length ≤ 1000000000000) (l2 : g.t2.length ≤ 1000000000000) :
    Calls Try.prog 42 #[.pointer (some ⟨c.m, 0, none⟩), .agg #[x0, x1, x2, x3, .int .i64 off, .int .i64 who], .int .i64 a, .int .i64 n] W fun e w' => e = .returned (.tuple #[]) ∧ TD c g who W w' (off + a) (off + a + n) := by
  have hr' : W.heap[c.m]? = some (.cells (csOf c g) 87 (0, 0)) := hr
  match who, hw with
  | 0, _ => exact reads_who0 x0 x1 x2 x3 off a n c.m W
  | 1, _ =>
    have h1' : W.ownsRow 0 50 2 g.v7 g.t1.length (readCells g.t1) := h1
    obtain ⟨ao, cap, e⟩ := own2_form h1'
    by_cases hn : 0 < n
    · have h1'' := h1'
      rw [e] at h1''
      refine (reads_told1 (csOf c g) x0 x1 x2 x3 off a n c.m W ao cap g.t1 hr' (by rw [← e]; rfl) h1'' (by omega) (by omega) (by omega) l1).mono fun e' w' h => ⟨h.1, ?_⟩
      have hlt : (off : Int) + a < off + a + n := by omega
      show ToldDone W w' c.m 7 (csOf c g) g.v7 (tellR (some c.q1) g.t1 (off + a) (off + a + n))
      rw [tell_yes hlt, e]
      exact h.2
    · refine (reads_none x0 x1 x2 x3 off a n 1 c.m W (by omega) (by omega)).mono fun e' w' h => ⟨h.1, ?_⟩
      show ToldDone W w' c.m 7 (csOf c g) g.v7 (tellR (some c.q1) g.t1 (off + a) (off + a + n))
      rw [tell_no (by omega)]
      exact ToldDone.idle hr' h1' rfl h.2
  | 2, _ =>
    have h1' : W.ownsRow 0 50 2 g.v8 g.t2.length (readCells g.t2) := h2
    obtain ⟨ao, cap, e⟩ := own2_form h1'
    by_cases hn : 0 < n
    · have h1'' := h1'
      rw [e] at h1''
      refine (reads_told2 (csOf c g) x0 x1 x2 x3 off a n c.m W ao cap g.t2 hr' (by rw [← e]; rfl) h1'' (by omega) (by omega) (by omega) l2).mono fun e' w' h => ⟨h.1, ?_⟩
      have hlt : (off : Int) + a < off + a + n := by omega
      show ToldDone W w' c.m 8 (csOf c g) g.v8 (tellR (some c.q2) g.t2 (off + a) (off + a + n))
      rw [tell_yes hlt, e]
      exact h.2
    · refine (reads_none x0 x1 x2 x3 off a n 2 c.m W (by omega) (by omega)).mono fun e' w' h => ⟨h.1, ?_⟩
      show ToldDone W w' c.m 8 (csOf c g) g.v8 (tellR (some c.q2) g.t2 (off + a) (off + a + n))
      rw [tell_no (by omega)]
      exact ToldDone.idle hr' h1' rfl h.2
theorem Inv.td {c : Cn} {g : Gh} {who : Nat} {W W' : World} {a b : Int} (hw : who ≤ 2) (h : Inv c W g) (t : TD c g who W W' a b) : ∃ v, Go c NoF W g W' (setT g who v (tellR (qOf c who) (tOf g who) a b)) := by
  match who, hw with
  | 0, _ => exact ⟨.slice none 0 0, h.rest0 t⟩
  | 1, _ => exact h.told1 t
  | 2, _ => exact h.told2 t
theorem Inv.wat {c : Cn} {g : Gh} {who : Nat} {w w' : World} {rs : List (Int × Int)} (hw : who ≤ 2) (h : Inv c w g) (hd : WatDone w w' (qOf c who) (gqOf g who) rs) : ∃ gq', Go c NoF w g w' (setW g who gq' rs) := by
  match who, hw with
  | 0, _ =>
    obtain ⟨gq', h1, h2, h3⟩ := hd
    exact ⟨none, h.rest0 (h2.mono fun b _ e => by rcases e with e | e <;> cases e)⟩
  | 1, _ => exact h.wat1 hd
  | 2, _ => exact h.wat2 hd
theorem Inv.looks {c : Cn} {g : Gh} {who : Nat} {w : World} (hw : who ≤ 2) (h : Inv c w g) : Wat w (qOf c who) (gqOf g who) (wOf g who) := by
  match who, hw with
  | 0, _ => exact ⟨rfl, rfl⟩
  | 1, _ => exact h.cm .w1
  | 2, _ => exact h.cm .w2
/-- a told reading: the watch, then the room -/
theorem Inv.chain {c : Cn} {g : Gh} {who : Nat} {w w' : World} {a b : Int} (hw : who ≤ 2) (h : Inv c w g) (t : Chain w w' (qOf c who) (gqOf g who) (tellR (qOf c who) (wOf g who) a b) (fun W W' => TD c g who W W' a b)) :
    ∃ gq' v', Go c NoF w g w' (setT (setW g who gq' (tellR (qOf c who) (wOf g who) a b)) who v' (tellR (qOf c who) (tOf g who) a b)) := by
  obtain ⟨w1, w2, w3, k1, d, k2, t⟩ := t
  obtain ⟨gq', hi⟩ := Inv.wat hw (h.idle k1) d
  have hi1 := (h.rest0 k1).trans hi (fun _ f => f.elim)
  have hi2 := hi1.trans (hi1.inv.rest0 k2) (fun _ f => f.elim)
  refine ⟨gq', ?_⟩
  match who, hw with
  | 0, _ => exact ⟨.slice none 0 0, hi2.trans (hi2.inv.rest0 t) (fun _ f => f.elim)⟩
  | 1, _ =>
    obtain ⟨v', h3⟩ := hi2.inv.told1 t
    exact ⟨v', hi2.trans h3 (fun _ f => f.elim)⟩
  | 2, _ =>
    obtain ⟨v', h3⟩ := hi2.inv.told2 t
    exact ⟨v', hi2.trans h3 (fun _ f => f.elim)⟩
/-- the room's rows, behind a watch that has been told -/
theorem Inv.rest {c : Cn} {g : Gh} {who : Nat} {w W : World} (hw : who ≤ 2) (h : Inv c w g) (k : Keeps w W (fun b => qOf c who = some b ∨ gqOf g who = some b)) : Kit.cm c g W .room ∧ Kit.cm c g W .t1 ∧ Kit.cm c g W .t2 ∧ Kit.cm c g W .all := by
  have no : ∀ i, i ≠ .w1 → i ≠ .w2 → Kit.cm c g W i := fun i h1 h2 => h.others k fun b hb hf => by
    match who, hw with
    | 0, _ => rcases hb with e | e <;> cases e
    | 1, _ => exact h1 (h.ap i .w1 b hf (hb.imp (fun e => Option.some.inj e) id))
    | 2, _ => exact h2 (h.ap i .w2 b hf (hb.imp (fun e => Option.some.inj e) id))
  exact ⟨no _ (by simp) (by simp), no _ (by simp) (by simp), no _ (by simp) (by simp), no _ (by simp) (by simp)⟩
theorem Inv.wlt {c : Cn} {g : Gh} {who : Nat} {w : World} (hw : who ≤ 2) (h : Inv c w g) : ∀ k, (qOf c who = some k ∨ gqOf g who = some k) → k < w.heap.size := fun k e => by
  match who, hw with
  | 0, _ => rcases e with e | e <;> cases e
  | 1, _ => exact h.lt .w1 k (e.imp (fun e => Option.some.inj e) id)
  | 2, _ => exact h.lt .w2 k (e.imp (fun e => Option.some.inj e) id)
/-- all is well, and the lists are no longer than k -/
structure Ok (c : Cn) (g : Gh) (k : Nat) : Prop where
  N : c.N ≤ 1048576
  len : g.L.length = c.N + 9
  byte : ∀ x ∈ g.L, 0 ≤ x ∧ x < 256
  tail : ∀ j, c.N ≤ j → j < c.N + 9 → g.L[j]? = some 55
  seen : ∀ s ∈ g.S, SnOk c s
  s0 : 0 < g.S.length
  s1 : g.S.length ≤ 40
  d : g.D9 = g.D10
  d9 : ∀ s ∈ g.D9, SnOk c s
  e1 : g.w1 = g.t1
  e2 : g.w2 = g.t2
  b1 : g.t1.length ≤ k
  b2 : g.t2.length ≤ k
  b9 : g.D9.length ≤ k
  c1 : g.N1 ≤ k
  c2 : g.N2 ≤ k
  c4 : g.N4 ≤ k
  c8 : g.N8 ≤ k
  l1 : ∀ i, i < g.N1 → g.l1 i ≤ 1048576
  l2 : ∀ i, i < g.N2 → g.l2 i ≤ 1048576
  l4 : ∀ i, i < g.N4 → g.l4 i ≤ 1048576
  l8 : ∀ i, i < g.N8 → g.l8 i ≤ 1048576
theorem Ok.mono {c : Cn} {g : Gh} {k k' : Nat} (h : Ok c g k) (hk : k ≤ k') : Ok c g k' :=
  ⟨h.N, h.len, h.byte, h.tail, h.seen, h.s0, h.s1, h.d, h.d9, h.e1, h.e2, Nat.le_trans h.b1 hk, Nat.le_trans h.b2 hk, Nat.le_trans h.b9 hk, Nat.le_trans h.c1 hk, Nat.le_trans h.c2 hk, Nat.le_trans h.c4 hk, Nat.le_trans h.c8 hk, h.l1, h.l2, h.l4, h.l8⟩
theorem tellR_len (q : Option Nat) (rs : List (Int × Int)) (a b : Int) : (tellR q rs a b).length ≤ rs.length + 1 := by
  unfold tellR
  split
  · omega
  · split
    · simp
    · omega
theorem Ok.told {c : Cn} {g : Gh} {k who : Nat} {gq' : Option Nat} {v' : Value} {a b : Int} (hw : who ≤ 2) (h : Ok c g k) : Ok c (setT (setW g who gq' (tellR (qOf c who) (wOf g who) a b)) who v' (tellR (qOf c who) (tOf g who) a b)) (k + 1) := by
  have h' := h.mono (Nat.le_succ k)
  match who, hw with
  | 0, _ => exact h'
  | 1, _ => exact { h' with
      e1 := by show tellR (qOf c 1) (wOf g 1) a b = tellR (qOf c 1) (tOf g 1) a b; rw [show wOf g 1 = tOf g 1 from h.e1]
      b1 := Nat.le_trans (tellR_len (qOf c 1) (tOf g 1) a b) (Nat.succ_le_succ h.b1) }
  | 2, _ => exact { h' with
      e2 := by show tellR (qOf c 2) (wOf g 2) a b = tellR (qOf c 2) (tOf g 2) a b; rw [show wOf g 2 = tOf g 2 from h.e2]
      b2 := Nat.le_trans (tellR_len (qOf c 2) (tOf g 2) a b) (Nat.succ_le_succ h.b2) }
theorem Ok.wat {c : Cn} {g : Gh} {k : Nat} (h : Ok c g k) {who : Nat} (hw : who ≤ 2) : (wOf g who).length ≤ k ∧ (tOf g who).length ≤ k := by
  match who, hw with
  | 0, _ => exact ⟨Nat.zero_le _, Nat.zero_le _⟩
  | 1, _ => exact ⟨by show g.w1.length ≤ k; rw [h.e1]; exact h.b1, h.b1⟩
  | 2, _ => exact ⟨by show g.w2.length ≤ k; rw [h.e2]; exact h.b2, h.b2⟩
theorem tOf_setW (g : Gh) (who : Nat) (q : Option Nat) (rs : List (Int × Int)) : tOf (setW g who q rs) who = tOf g who := by
  unfold setW
  split <;> rfl
/-- what a view of the room looks at -/
def lOf (g : Gh) (s : Sn) : List Int := (g.L.drop s.off).take s.n
theorem Inv.view {c : Cn} {g : Gh} {k : Nat} {w : World} {s : Sn} (h : Inv c w g) (o : Ok c g k) (hs : SnOk c s) (hk : k ≤ 100000000) : Looks w s.ao s.n s.cap s.off (qOf c s.who) (gqOf g s.who) (wOf g s.who) (lOf g s) :=
  ⟨hs.v.form, hs.v.has w g.L (h.cm .all) (by rw [o.len]; omega), by have := hs.v.le; have := o.len; simp [lOf]; omega, fun x hx => o.byte x (List.mem_of_mem_drop (List.mem_of_mem_take hx)), h.looks hs.who, ⟨by omega, by have := hs.v.le; have := o.N; omega⟩, by have := (o.wat hs.who).1; omega, fun b o' e hn => by
    have hb := hs.v.blk b o' e hn
    subst hb
    have no : ∀ i, i ≠ .all → ¬ ft c g i c.A := fun i hi hf => hi (h.ap i .all c.A hf rfl)
    obtain ⟨ao, n, cap, off, ao', cap', who⟩ := s
    have hw := hs.who
    match who, hw with
    | 0, _ => exact ⟨nofun, nofun⟩
    | 1, _ => exact ⟨fun q => no .w1 (by simp) (.inl (Option.some.inj q)), fun q => no .w1 (by simp) (.inr q)⟩
    | 2, _ => exact ⟨fun q => no .w2 (by simp) (.inl (Option.some.inj q)), fun q => no .w2 (by simp) (.inr q)⟩⟩
theorem Inv.ref {c : Cn} {g : Gh} {k : Nat} {w : World} {s : Sn} (h : Kit.cm c g w .all) (o : Ok c g k) (hs : SnOk c s) : RLooks w s.ao' s.n s.cap' (lOf g s) :=
  ⟨hs.r.form, hs.r.has w g.L h (by rw [o.len]; omega), by have := hs.v.le; have := o.len; simp [lOf]; omega, fun x hx => o.byte x (List.mem_of_mem_drop (List.mem_of_mem_take hx))⟩
end Go.Proofs.Ytomlndoffoeaiaa.Kit
