import Derived.Test.YtkodgneneiledaaGreatDoorUM
import Derived.Test.YtkodgneneiledaaGreatDoorKitTwo
namespace Go.Proofs.YtkodgneneiledaaGreatDoor.Kit
open Go.RowKit Go.Shelf Go.Deep
set_option linter.unusedVariables false

/-! ### lists that grow, and fields -/
theorem own_formK {W : World} {t s n : Nat} {v : Value} {xs : List Value} (h : W.ownsRow 0 t s v n xs) : ∃ vo vc, v = .slice vo n vc := by
  rcases h.2 with ⟨rfl, h0⟩ | ⟨g, cap, cur, rfl, _⟩
  · exact ⟨none, 0, by rw [h0]⟩
  · exact ⟨_, _, rfl⟩
/-- a list of one's own, new since W -/
structure LAt {α : Type} (W w' : World) (t s : Nat) (c : α → List Value) (l : List α) (vo : Option Addr) (vc : Nat) : Prop where
  own : w'.ownsRow 0 t s (.slice vo l.length vc) l.length (l.flatMap c)
  new : ∀ g, (Value.slice vo l.length vc).ownBlock = some g → W.heap.size ≤ g
theorem LAt.nil {α : Type} (W w' : World) (t s : Nat) (c : α → List Value) : LAt W w' t s c [] none 0 := ⟨World.ownsRow_nil _ _ _ _, fun g e => by simp [Value.ownBlock] at e⟩
theorem LAt.blk {α : Type} {W U U' : World} {t s : Nat} {c : α → List Value} {l : List α} {vo : Option Addr} {vc : Nat} {S : Nat → Prop} (h : LAt W U t s c l vo vc) (k : Keeps U U' S) (hS : ∀ z, (Value.slice vo l.length vc).ownBlock = some z → W.heap.size ≤ z → ¬ S z) : LAt W U' t s c l vo vc :=
  ⟨row_kp h.own fun g e => k.block g (own_lt h.own g e) (hS g e (h.new g e)), h.new⟩
theorem LAt.kpn {α : Type} {W U U' : World} {t s : Nat} {c : α → List Value} {l : List α} {vo : Option Addr} {vc p : Nat} (ht : t ≠ 3) (h : LAt W U t s c l vo vc) (k : KpN U U' p) (hp : p < W.heap.size) : LAt W U' t s c l vo vc :=
  h.blk k fun z e hz hS => hS.elim (fun e' => by omega) fun hi => by
    obtain ⟨cs, hb⟩ := own_blk h.own e
    exact IntsB.of hb ht hi
/-- new blocks, not of whole numbers -/
def NB (p : Nat) (W w' : World) (b : Nat) : Prop := W.heap.size ≤ b ∧ b < w'.heap.size ∧ ¬ IntsB p w' b
theorem NB.of {p : Nat} {W U U' : World} {b : Nat} (h : NB p W U b) (e : U'.heap[b]? = U.heap[b]?) (hs : U.heap.size ≤ U'.heap.size) : NB p W U' b := ⟨h.1, Nat.lt_of_lt_of_le h.2.1 hs, IntsB.same e h.2.2⟩
theorem NB.kpn {W U U' : World} {b p : Nat} (h : NB p W U b) (k : KpN U U' p) (hp : p < W.heap.size) : U'.heap[b]? = U.heap[b]? := k.blk h.2.1 (by have := h.1; omega) h.2.2
theorem RowAt.nb {p : Nat} {W U U' : World} {d : Nat} {ao : Option Addr} {l : List FT} (h : RowAt (NB p W U) U d ao l) (k : ∀ b, NB p W U b → U'.heap[b]? = U.heap[b]?) (hs : U.heap.size ≤ U'.heap.size) : RowAt (NB p W U') U' d ao l := (h.kept k).mono fun b hb => hb.of (k b hb) hs
theorem RowAt.low {p : Nat} {W V U : World} {d : Nat} {ao : Option Addr} {l : List FT} (h : RowAt (NB p V U) U d ao l) (hs : W.heap.size ≤ V.heap.size) : RowAt (NB p W U) U d ao l := h.mono fun b hb => ⟨Nat.le_trans hs hb.1, hb.2⟩
abbrev FE := FT × Option Addr × Nat
def fcel (e : FE) : List Value := [.string e.1.name, .bool e.1.nul, .int .i64 e.1.kind, .int .i64 e.1.width, .int .i64 e.1.id, .int .i64 e.1.index, .slice e.2.1 e.1.kids.length e.2.2]
theorem flat7 : ∀ (l : List FE) (i : Nat) (h : i < l.length) (j : Nat), j < 7 → (l.flatMap fcel)[i * 7 + j]? = (fcel l[i])[j]?
  | e :: l, 0, h, j, hj => by
    rw [List.flatMap_cons, List.getElem?_append_left (by show _ < 7; omega)]
    simp
  | e :: l, i + 1, h, j, hj => by
    rw [List.flatMap_cons, List.getElem?_append_right (by show 7 ≤ _; omega)]
    have := flat7 l i (by simpa using h) j hj
    rw [show (i + 1) * 7 + j - (fcel e).length = i * 7 + j by show _ - 7 = _; omega, this]
    simp
/-- a field as a value; its children are new since W -/
def FV (p d : Nat) (W w' : World) (f : FT) (v : Value) : Prop := ∃ ko kc, v = .agg #[.string f.name, .bool f.nul, .int .i64 f.kind, .int .i64 f.width, .int .i64 f.id, .int .i64 f.index, .slice ko f.kids.length kc] ∧ f.kids.length ≤ kc ∧ RowAt (NB p W w') w' d ko f.kids
structure FL (p : Nat) (W w' : World) (d : Nat) (l : List FE) (vo : Option Addr) (vc : Nat) : Prop where
  row : LAt W w' 37 7 fcel l vo vc
  kids : ∀ e ∈ l, e.1.kids.length ≤ e.2.2 ∧ RowAt (fun b => NB p W w' b ∧ (Value.slice vo l.length vc).ownBlock ≠ some b) w' d e.2.1 e.1.kids
theorem FL.kpn {W U U' : World} {d : Nat} {l : List FE} {vo : Option Addr} {vc p : Nat} (h : FL p W U d l vo vc) (k : KpN U U' p) (hp : p < W.heap.size) : FL p W U' d l vo vc :=
  ⟨h.row.kpn (by decide) k hp, fun e he => ⟨(h.kids e he).1, ((h.kids e he).2.kept fun b hb => hb.1.kpn k hp).mono fun b hb => ⟨hb.1.of (hb.1.kpn k hp) k.size, hb.2⟩⟩⟩
/-- one more -/
theorem FL.push {p : Nat} {W wr U w1 : World} {d : Nat} {l : List FE} {vo vo' : Option Addr} {vc vc' n : Nat} {x : FT} {ko : Option Addr} {kc : Nat} {ob : Obj} (hW : W.heap.size ≤ wr.heap.size) (hU : wr.heap.size ≤ U.heap.size) (h0 : FL p W wr d l vo vc) (h : FL p W U d l vo vc) (hl : l.length = n) (hk : x.kids.length ≤ kc) (hr : RowAt (NB p wr U) U d ko x.kids)
    (hown : w1.ownsRow 0 37 7 (.slice vo' (n + 1) vc') (n + 1) (l.flatMap fcel ++ fcel (x, ko, kc))) (hgrow : (U.alloc ob).grownBy w1 (Value.slice vo n vc).ownBlock) (hblk : (Value.slice vo' (n + 1) vc').ownBlock = (Value.slice vo n vc).ownBlock ∨ ∀ g, (Value.slice vo' (n + 1) vc').ownBlock = some g → (U.alloc ob).heap.size ≤ g) :
    FL p W w1 d (l ++ [(x, ko, kc)]) vo' vc' := by
  subst hl
  have gA : Gr U (U.alloc ob) := gr_alloc U _
  have sA := gA.size
  have kA : Keeps U w1 (fun z => (Value.slice vo l.length vc).ownBlock = some z) := (gA.mono fun _ _ h => h.elim).trans (Keeps.ofGrown hgrow) (fun _ _ h => h)
  have hL : (l ++ [(x, ko, kc)]).length = l.length + 1 := by simp
  refine ⟨⟨?_, fun g e => ?_⟩, fun e he => ?_⟩
  · rw [hL, List.flatMap_append]; simpa using hown
  · rw [hL] at e
    refine hblk.elim (fun q => h.row.new g (q ▸ e)) fun q => ?_
    have a1 := q g e
    omega
  · rw [hL]
    have hne : ∀ b, (W.heap.size ≤ b ∧ b < U.heap.size) → (Value.slice vo l.length vc).ownBlock ≠ some b → (Value.slice vo' (l.length + 1) vc').ownBlock ≠ some b := fun b hb hb' e => by
      rcases hblk with q | q
      · exact hb' (q ▸ e)
      · have := q b e; omega
    rcases List.mem_append.1 he with he | he
    · refine ⟨(h.kids e he).1, ((h.kids e he).2.kept fun b hb => kA.block b hb.1.2.1 hb.2).mono fun b hb => ⟨hb.1.of (kA.block b hb.1.2.1 hb.2) kA.size, hne b ⟨hb.1.1, hb.1.2.1⟩ hb.2⟩⟩
    · have e' : e = (x, ko, kc) := by simpa using he
      subst e'
      have hn0 : ∀ b, wr.heap.size ≤ b → (Value.slice vo l.length vc).ownBlock ≠ some b := fun b hb e => by have := own_lt h0.row.own b e; omega
      exact ⟨hk, (hr.kept fun b hb => kA.block b hb.2.1 (hn0 b hb.1)).mono fun b hb => ⟨⟨by have := hb.1; omega, Nat.lt_of_lt_of_le hb.2.1 kA.size, IntsB.same (kA.block b hb.2.1 (hn0 b hb.1)) hb.2.2⟩, hne b ⟨by have := hb.1; omega, hb.2.1⟩ (hn0 b hb.1)⟩⟩
/-- one alone, in a block of its own -/
theorem FL.one {p : Nat} {W U : World} {d : Nat} {x : FT} {ko : Option Addr} {kc : Nat} (hW : W.heap.size ≤ U.heap.size) (hk : x.kids.length ≤ kc) (hr : RowAt (NB p W U) U d ko x.kids) :
    FL p W (U.alloc (.cells #[Value.string x.name, .bool x.nul, .int .i64 x.kind, .int .i64 x.width, .int .i64 x.id, .int .i64 x.index, .slice ko x.kids.length kc] 37)) d [(x, ko, kc)] (some ⟨U.heap.size, 0, none⟩) 1 := by
  have gA := gr_alloc U (.cells #[Value.string x.name, .bool x.nul, .int .i64 x.kind, .int .i64 x.width, .int .i64 x.id, .int .i64 x.index, .slice ko x.kids.length kc] 37)
  refine ⟨⟨⟨rfl, .inr ⟨U.heap.size, 1, _, rfl, Nat.zero_le _, heap_alloc_new U _, Nat.le_refl _, by decide, rfl, rfl⟩⟩, fun g e => ?_⟩, fun e he => ?_⟩
  · have : U.heap.size = g := by simpa [Value.ownBlock] using e
    omega
  · have e' : e = (x, ko, kc) := by simpa using he
    subst e'
    refine ⟨hk, (hr.kept fun b hb => gA.block b hb.2.1 id).mono fun b hb => ⟨hb.of (gA.block b hb.2.1 id) gA.size, fun e => ?_⟩⟩
    have e2 : U.heap.size = b := by simpa [Value.ownBlock] using e
    have := hb.2.1
    omega
/-- as a list of fields -/
theorem FL.rowAt {p : Nat} {W w' : World} {d : Nat} {l : List FE} {vo : Option Addr} {vc : Nat} (h : FL p W w' d l vo vc) (hb : l.length ≤ big) : l.length ≤ vc ∧ RowAt (NB p W w') w' (d + 1) vo (l.map (·.1)) := by
  rcases h.row.own.2 with ⟨e, h0⟩ | ⟨g, cap, cur, e, h1, h2, h3, h4⟩
  · have : l = [] := List.length_eq_zero_iff.1 h0
    subst this
    exact ⟨Nat.zero_le _, by simp [big], fun hn => absurd rfl hn⟩
  · cases e
    refine ⟨by omega, by simpa using hb, fun hn => ⟨g, 0, rfl, ⟨h.row.new g rfl, own_lt h.row.own g rfl, IntsB.of h2 (by decide)⟩, fun i hi => ?_⟩⟩
    have hil : i < l.length := by simpa using hi
    have hm := h.kids l[i] (List.getElem_mem hil)
    have hc : ∀ j, j < 7 → w'.cell? ⟨g, i * 7 + j, none⟩ = (fcel l[i])[j]? := fun j hj => by
      rw [h.row.own.cellAt (i * 7 + j) (by omega), flat7 l i hil j hj]
    refine ⟨l[i].2.1, l[i].2.2, ?_, by rw [List.getElem_map]; exact hm.1, by rw [List.getElem_map]; exact hm.2.mono fun b hb => hb.1⟩
    rw [Nat.zero_add, List.getElem_map]
    exact ⟨hc 0 (by omega), hc 1 (by omega), hc 2 (by omega), hc 3 (by omega), hc 4 (by omega), hc 5 (by omega), hc 6 (by omega)⟩
/-- a list of fields as an answer -/
def LV (p d : Nat) (W w' : World) (l : List FT) (v : Value) : Prop := ∃ vo vc, v = .slice vo l.length vc ∧ l.length ≤ vc ∧ RowAt (NB p W w') w' (d + 1) vo l
theorem info41 : (Tryz.prog.info? 37).map (fun i => (i.zero, i.size, i.bytes)) = some (some (.agg #[.string ⟨#[]⟩, .bool false, .int .i64 0, .int .i64 0, .int .i64 0, .int .i64 0, .slice none 0 0]), 7, 80) := by kernel_rfl
theorem src41 (w : World) (x : FT) (ko : Option Addr) (kc : Nat) : Src Tryz.prog 7 24 (.slice (some ⟨w.heap.size, 0, none⟩) 1 1) 1 (fcel (x, ko, kc)) (w.alloc (.cells #[Value.string x.name, .bool x.nul, .int .i64 x.kind, .int .i64 x.width, .int .i64 x.id, .int .i64 x.index, .slice ko x.kids.length kc] 37)) := by
  refine Src.ofSlice (w := w.alloc (.cells #[Value.string x.name, .bool x.nul, .int .i64 x.kind, .int .i64 x.width, .int .i64 x.id, .int .i64 x.index, .slice ko x.kids.length kc] 37)) Tryz.underlying24 ⟨w.heap.size, 0, none⟩ 1 1 (fcel (x, ko, kc)) (by simp [fcel]) (fun j v hj => ?_) (fun v hv => by simp [fcel] at hv; rcases hv with rfl | rfl | rfl | rfl | rfl | rfl | rfl <;> rfl)
  have hb' := heap_alloc_new w (.cells #[Value.string x.name, .bool x.nul, .int .i64 x.kind, .int .i64 x.width, .int .i64 x.id, .int .i64 x.index, .slice ko x.kids.length kc] 37)
  have e : (⟨w.heap.size, 0, none⟩ : Addr).add j = ⟨w.heap.size, j, none⟩ := by cases j <;> simp [Addr.add]
  rw [e]
  simp only [World.cell?, hb']
  simpa [fcel] using hj
end Go.Proofs.YtkodgneneiledaaGreatDoor.Kit
