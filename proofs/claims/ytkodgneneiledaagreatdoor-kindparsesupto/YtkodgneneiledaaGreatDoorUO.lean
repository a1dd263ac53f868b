import Derived.Test.YtkodgneneiledaaGreatDoorKitTwo
import Derived.Test.YtkodgneneiledaaGreatDoorUL
set_option maxRecDepth 100000
set_option maxHeartbeats 4000000
namespace Go.Proofs.YtkodgneneiledaaGreatDoor.Kit
open Go.RowKit Go.Shelf Go.Deep
set_option linter.unusedVariables false
theorem own_formK {W : World} {t s n : Nat} {v : Value} {xs : List Value} (h : W.ownsRow 0 t s v n xs) : ∃ vo vc, v = .slice vo n vc := by
  rcases h.2 with ⟨rfl, h0⟩ | ⟨g, cap, cur, rfl, _⟩
  · exact ⟨none, 0, by rw [h0]⟩
  exact ⟨_, _, rfl⟩
structure LAt {α : Type} (W w' : World) (t s : Nat) (c : α → List Value) (l : List α) (vo : Option Addr) (vc : Nat) : Prop where
  own : w'.ownsRow 0 t s (.slice vo l.length vc) l.length (l.flatMap c)
  new : ∀ g, (Value.slice vo l.length vc).ownBlock = some g → W.heap.size ≤ g
theorem LAt.nil {α : Type} (W w' : World) (t s : Nat) (c : α → List Value) : LAt W w' t s c [] none 0 := ⟨World.ownsRow_nil _ _ _ _, fun g e => by simp [Value.ownBlock] at e⟩
theorem LAt.blk {α : Type} {W U U' : World} {t s : Nat} {c : α → List Value} {l : List α} {vo : Option Addr} {vc : Nat} {S : Nat → Prop} (h : LAt W U t s c l vo vc) (k : Keeps U U' S) (hS : ∀ z, (Value.slice vo l.length vc).ownBlock = some z → W.heap.size ≤ z → ¬ S z) : LAt W U' t s c l vo vc :=
  ⟨row_kp h.own fun g e => k.block g (own_lt h.own g e) (hS g e (h.new g e)), h.new⟩
theorem LAt.kpn {α : Type} {W U U' : World} {t s : Nat} {c : α → List Value} {l : List α} {vo : Option Addr} {vc p : Nat} (ht : t ≠ 3) (h : LAt W U t s c l vo vc) (k : KpN U U' p) (hp : p < W.heap.size) : LAt W U' t s c l vo vc :=
  h.blk k fun z e hz hS => hS.elim (fun e' => by omega) fun hi => by
    obtain ⟨cs, hb⟩ := own_blk h.own e
    exact IntsB.of hb ht hi
def NB (p : Nat) (W w' : World) (b : Nat) : Prop := W.heap.size ≤ b ∧ b < w'.heap.size ∧ ¬ IntsB p w' b
theorem NB.of {p : Nat} {W U U' : World} {b : Nat} (h : NB p W U b) (e : U'.heap[b]? = U.heap[b]?) (hs : U.heap.size ≤ U'.heap.size) : NB p W U' b := ⟨h.1, Nat.lt_of_lt_of_le h.2.1 hs, IntsB.same e h.2.2⟩
theorem NB.kpn {W U U' : World} {b p : Nat} (h : NB p W U b) (k : KpN U U' p) (hp : p < W.heap.size) : U'.heap[b]? = U.heap[b]? := k.blk h.2.1 (by have := h.1; omega) h.2.2
theorem RowAt.nb {p : Nat} {W U U' : World} {d : Nat} {ao : Option Addr} {l : List FT} (h : RowAt (NB p W U) U d ao l) (k : ∀ b, NB p W U b → U'.heap[b]? = U.heap[b]?) (hs : U.heap.size ≤ U'.heap.size) : RowAt (NB p W U') U' d ao l := (h.kept k).mono fun b hb => hb.of (k b hb) hs
theorem RowAt.low {p : Nat} {W V U : World} {d : Nat} {ao : Option Addr} {l : List FT} (h : RowAt (NB p V U) U d ao l) (hs : W.heap.size ≤ V.heap.size) : RowAt (NB p W U) U d ao l := h.mono fun b hb => ⟨Nat.le_trans hs hb.1, hb.2⟩
abbrev FE := FT × Option Addr × Nat
def fcel (e : FE) : List Value := [.string e.1.name, .bool e.1.nul, .int .i64 e.1.kind, .int .i64 e.1.width, .int .i64 e.1.id, .int .i64 e.1.index, .slice e.2.1 e.1.kids.length e.2.2]
theorem flat7 : ∀ (l : List FE) (i : Nat) (h : i < l.length) (j : Nat), j < 7 → (l.flatMap fcel)[i * 7 + j]? = (fcel l[i])[j]?
  | e :: l, 0, h, j, hj => by
    rw [List.flatMap_cons, List.getElem?_append_left (by show _ < 7; omega)]
    simp
  | e :: l, i + 1, h, j, hj => by
    rw [List.flatMap_cons, List.getElem?_append_right (by show 7 ≤ _; omega)]
    have := flat7 l i (by simpa using h) j hj
    rw [show (i + 1) * 7 + j - (fcel e).length = i * 7 + j by show _ - 7 = _; omega, this]
    simp
def FV (p d : Nat) (W w' : World) (f : FT) (v : Value) : Prop := ∃ ko kc, v = .agg #[.string f.name, .bool f.nul, .int .i64 f.kind, .int .i64 f.width, .int .i64 f.id, .int .i64 f.index, .slice ko f.kids.length kc] ∧ f.kids.length ≤ kc ∧ RowAt (NB p W w') w' d ko f.kids
structure FL (p : Nat) (W w' : World) (d : Nat) (l : List FE) (vo : Option Addr) (vc : Nat) : Prop where
  row : LAt W w' 37 7 fcel l vo vc
  kids : ∀ e ∈ l, e.1.kids.length ≤ e.2.2 ∧ RowAt (fun b => NB p W w' b ∧ (Value.slice vo l.length vc).ownBlock ≠ some b) w' d e.2.1 e.1.kids
theorem FL.kpn {W U U' : World} {d : Nat} {l : List FE} {vo : Option Addr} {vc p : Nat} (h : FL p W U d l vo vc) (k : KpN U U' p) (hp : p < W.heap.size) : FL p W U' d l vo vc :=
  ⟨h.row.kpn (by decide) k hp, fun e he => ⟨(h.kids e he).1, ((h.kids e he).2.kept fun b hb => hb.1.kpn k hp).mono fun b hb => ⟨hb.1.of (hb.1.kpn k hp) k.size, hb.2⟩⟩⟩
theorem FL.push {p : Nat} {W wr U w1 : World} {d : Nat} {l : List FE} {vo vo' : Option Addr} {vc vc' n : Nat} {x : FT} {ko : Option Addr} {kc : Nat} {ob : Obj} (hW : W.heap.size ≤ wr.heap.size) (hU : wr.heap.size ≤ U.heap.size) (h0 : FL p W wr d l vo vc) (h : FL p W U d l vo vc) (hl : l.length = n) (hk : x.kids.length ≤ kc) (hr : RowAt (NB p wr U) U d ko x.kids)
    (hown : w1.ownsRow 0 37 7 (.slice vo' (n + 1) vc') (n + 1) (l.flatMap fcel ++ fcel (x, ko, kc))) (hgrow : (U.alloc ob).grownBy w1 (Value.slice vo n vc).ownBlock) (hblk : (Value.slice vo' (n + 1) vc').ownBlock = (Value.slice vo n vc).ownBlock ∨ ∀ g, (Value.slice vo' (n + 1) vc').ownBlock = some g → (U.alloc ob).heap.size ≤ g) :
    FL p W w1 d (l ++ [(x, ko, kc)]) vo' vc' := by
  subst hl
  have gA : Gr U (U.alloc ob) := gr_alloc U _
  have sA := gA.size
  have kA : Keeps U w1 (fun z => (Value.slice vo l.length vc).ownBlock = some z) := (gA.mono fun _ _ h => h.elim).trans (Keeps.ofGrown hgrow) (fun _ _ h => h)
  have hL : (l ++ [(x, ko, kc)]).length = l.length + 1 := by simp
  refine ⟨⟨?_, fun g e => ?_⟩, fun e he => ?_⟩
  · rw [hL, List.flatMap_append]; simpa using hown
  · rw [hL] at e
    refine hblk.elim (fun q => h.row.new g (q ▸ e)) fun q => ?_
    have a1 := q g e
    omega
  rw [hL]
  have hne : ∀ b, (W.heap.size ≤ b ∧ b < U.heap.size) → (Value.slice vo l.length vc).ownBlock ≠ some b → (Value.slice vo' (l.length + 1) vc').ownBlock ≠ some b := fun b hb hb' e => by
    rcases hblk with q | q
    · exact hb' (q ▸ e)
    have := q b e; omega
  rcases List.mem_append.1 he with he | he
  · refine ⟨(h.kids e he).1, ((h.kids e he).2.kept fun b hb => kA.block b hb.1.2.1 hb.2).mono fun b hb => ⟨hb.1.of (kA.block b hb.1.2.1 hb.2) kA.size, hne b ⟨hb.1.1, hb.1.2.1⟩ hb.2⟩⟩
  have e' : e = (x, ko, kc) := by simpa using he
  subst e'
  have hn0 : ∀ b, wr.heap.size ≤ b → (Value.slice vo l.length vc).ownBlock ≠ some b := fun b hb e => by have := own_lt h0.row.own b e; omega
  exact ⟨hk, (hr.kept fun b hb => kA.block b hb.2.1 (hn0 b hb.1)).mono fun b hb => ⟨⟨by have := hb.1; omega, Nat.lt_of_lt_of_le hb.2.1 kA.size, IntsB.same (kA.block b hb.2.1 (hn0 b hb.1)) hb.2.2⟩, hne b ⟨by have := hb.1; omega, hb.2.1⟩ (hn0 b hb.1)⟩⟩
theorem FL.one {p : Nat} {W U : World} {d : Nat} {x : FT} {ko : Option Addr} {kc : Nat} (hW : W.heap.size ≤ U.heap.size) (hk : x.kids.length ≤ kc) (hr : RowAt (NB p W U) U d ko x.kids) :
    FL p W (U.alloc (.cells #[Value.string x.name, .bool x.nul, .int .i64 x.kind, .int .i64 x.width, .int .i64 x.id, .int .i64 x.index, .slice ko x.kids.length kc] 37)) d [(x, ko, kc)] (some ⟨U.heap.size, 0, none⟩) 1 := by
  have gA := gr_alloc U (.cells #[Value.string x.name, .bool x.nul, .int .i64 x.kind, .int .i64 x.width, .int .i64 x.id, .int .i64 x.index, .slice ko x.kids.length kc] 37)
  refine ⟨⟨⟨rfl, .inr ⟨U.heap.size, 1, _, rfl, Nat.zero_le _, heap_alloc_new U _, Nat.le_refl _, by decide, rfl, rfl⟩⟩, fun g e => ?_⟩, fun e he => ?_⟩
  · have : U.heap.size = g := by simpa [Value.ownBlock] using e
    omega
  have e' : e = (x, ko, kc) := by simpa using he
  subst e'
  refine ⟨hk, (hr.kept fun b hb => gA.block b hb.2.1 id).mono fun b hb => ⟨hb.of (gA.block b hb.2.1 id) gA.size, fun e => ?_⟩⟩
  have e2 : U.heap.size = b := by simpa [Value.ownBlock] using e
  have := hb.2.1
  omega
theorem FL.rowAt {p : Nat} {W w' : World} {d : Nat} {l : List FE} {vo : Option Addr} {vc : Nat} (h : FL p W w' d l vo vc) (hb : l.length ≤ big) : l.length ≤ vc ∧ RowAt (NB p W w') w' (d + 1) vo (l.map (·.1)) := by
  rcases h.row.own.2 with ⟨e, h0⟩ | ⟨g, cap, cur, e, h1, h2, h3, h4⟩
  · have : l = [] := List.length_eq_zero_iff.1 h0
    subst this
    exact ⟨Nat.zero_le _, by simp [big], fun hn => absurd rfl hn⟩
  cases e
  refine ⟨by omega, by simpa using hb, fun hn => ⟨g, 0, rfl, ⟨h.row.new g rfl, own_lt h.row.own g rfl, IntsB.of h2 (by decide)⟩, fun i hi => ?_⟩⟩
  have hil : i < l.length := by simpa using hi
  have hm := h.kids l[i] (List.getElem_mem hil)
  have hc : ∀ j, j < 7 → w'.cell? ⟨g, i * 7 + j, none⟩ = (fcel l[i])[j]? := fun j hj => by
    rw [h.row.own.cellAt (i * 7 + j) (by omega), flat7 l i hil j hj]
  refine ⟨l[i].2.1, l[i].2.2, ?_, by rw [List.getElem_map]; exact hm.1, by rw [List.getElem_map]; exact hm.2.mono fun b hb => hb.1⟩
  rw [Nat.zero_add, List.getElem_map]
  exact ⟨hc 0 (by omega), hc 1 (by omega), hc 2 (by omega), hc 3 (by omega), hc 4 (by omega), hc 5 (by omega), hc 6 (by omega)⟩
def LV (p d : Nat) (W w' : World) (l : List FT) (v : Value) : Prop := ∃ vo vc, v = .slice vo l.length vc ∧ l.length ≤ vc ∧ RowAt (NB p W w') w' (d + 1) vo l
theorem info41 : (Tryz.prog.info? 37).map (fun i => (i.zero, i.size, i.bytes)) = some (some (.agg #[.string ⟨#[]⟩, .bool false, .int .i64 0, .int .i64 0, .int .i64 0, .int .i64 0, .slice none 0 0]), 7, 80) := by kernel_rfl
theorem src41 (w : World) (x : FT) (ko : Option Addr) (kc : Nat) : Src Tryz.prog 7 24 (.slice (some ⟨w.heap.size, 0, none⟩) 1 1) 1 (fcel (x, ko, kc)) (w.alloc (.cells #[Value.string x.name, .bool x.nul, .int .i64 x.kind, .int .i64 x.width, .int .i64 x.id, .int .i64 x.index, .slice ko x.kids.length kc] 37)) := by
  refine Src.ofSlice (w := w.alloc (.cells #[Value.string x.name, .bool x.nul, .int .i64 x.kind, .int .i64 x.width, .int .i64 x.id, .int .i64 x.index, .slice ko x.kids.length kc] 37)) Tryz.underlying24 ⟨w.heap.size, 0, none⟩ 1 1 (fcel (x, ko, kc)) (by simp [fcel]) (fun j v hj => ?_) (fun v hv => by simp [fcel] at hv; rcases hv with rfl | rfl | rfl | rfl | rfl | rfl | rfl <;> rfl)
  have hb' := heap_alloc_new w (.cells #[Value.string x.name, .bool x.nul, .int .i64 x.kind, .int .i64 x.width, .int .i64 x.id, .int .i64 x.index, .slice ko x.kids.length kc] 37)
  have e : (⟨w.heap.size, 0, none⟩ : Addr).add j = ⟨w.heap.size, j, none⟩ := by cases j <;> simp [Addr.add]
  rw [e]
  simp only [World.cell?, hb']
  simpa [fcel] using hj
theorem tk {P : Program} {ops : Array Oper} {Q : Exit → Act → World → Prop} {md : Region.Mode} {S : World → Prop} {i : Nat} {oi : Oper} {v : Value} {fuel : Nat} {listed : Array Bool} {a : Act} {w : World} (hi : ops[i]? = some oi) (hy : YieldsIf P ops S oi v a) (h : wpAnyH P md ops Q S fuel (listed.setIfInBounds i true) (a.put oi.dst v) w) (hQ : ∀ c a w, Q (.panic c) (a.put oi.dst v) w → Q (.panic c) a w := by first | exact fun _ _ _ h => h | exact fun _ _ _ h => by cases h.1) (hs : Region.noSelect ops = true := by kernel_rfl) (hf : Region.free md ops listed i = true := by kernel_rfl) (hr : (Region.ready md ops listed).contains i = true := by kernel_rfl) (hS : S w := by assumption) : wpAnyH P md ops Q S (fuel + 1) listed a w := wpAnyH_take hi hs hf hr hQ hy hS h
theorem lA {α : Type} (l : List α) (i : Nat) (a : α) : l.toArray.setIfInBounds i a = (l.set i a).toArray := by simp
theorem lB {α : Type} (a b : α) (l : List α) (n : Nat) : (a :: l).set (n + 1) b = a :: l.set n b := rfl
theorem lC {α : Type} (a b : α) (l : List α) : (a :: l).set 0 b = b :: l := rfl
theorem rd1 {P : Program} {ops : Array Oper} {Q : Exit → Act → World → Prop} {md : Region.Mode} {S : World → Prop} {fuel : Nat} {listed : Array Bool} {a : Act} {w : World} {o : Oper} (i : Nat) (ho : ops[i]? = some o)
    (h : ∀ K' : Act → World → Prop, Shut (∀ a w, S w → (S w → wpAnyH P md ops Q S fuel (listed.setIfInBounds i true) a w) → K' a w) → if Region.wanted o (yielded ops a.tmps) = true then Oper.wp P o a w K' Q else K' (a.put o.dst undef) w) (hr : Region.ready md ops listed = [i] := by kernel_rfl) : wpAnyH P md ops Q S (fuel + 1) listed a w := wpAnyH_ready hr (by simp) (AllReadyH.cons ho h AllReadyH.nil)
theorem rd2 {P : Program} {ops : Array Oper} {Q : Exit → Act → World → Prop} {md : Region.Mode} {S : World → Prop} {fuel : Nat} {listed : Array Bool} {a : Act} {w : World} {o o' : Oper} (i j : Nat) (ho : ops[i]? = some o) (ho' : ops[j]? = some o')
    (h : ∀ K' : Act → World → Prop, Shut (∀ a w, S w → (S w → wpAnyH P md ops Q S fuel (listed.setIfInBounds i true) a w) → K' a w) → if Region.wanted o (yielded ops a.tmps) = true then Oper.wp P o a w K' Q else K' (a.put o.dst undef) w)
    (h' : ∀ K' : Act → World → Prop, Shut (∀ a w, S w → (S w → wpAnyH P md ops Q S fuel (listed.setIfInBounds j true) a w) → K' a w) → if Region.wanted o' (yielded ops a.tmps) = true then Oper.wp P o' a w K' Q else K' (a.put o'.dst undef) w) (hr : Region.ready md ops listed = [i, j] := by kernel_rfl) : wpAnyH P md ops Q S (fuel + 1) listed a w := wpAnyH_ready hr (by simp) (AllReadyH.cons ho h (AllReadyH.cons ho' h' AllReadyH.nil))
def u8v (c : UInt8) : List Value := [.int .u8 (c.toNat : Int)]
theorem infoU8 : (Tryz.prog.info? 5).map (fun i => (i.zero, i.size, i.bytes)) = some (some (.int .u8 0), 1, 1) := by kernel_rfl
theorem srcU8 (w : World) (z : Int) : Src Tryz.prog 1 111 (.slice (some ⟨w.heap.size, 0, none⟩) 1 1) 1 [.int .u8 z] (w.alloc (.cells #[.int .u8 z] 5)) := by
  refine Src.ofSlice (w := w.alloc (.cells #[.int .u8 z] 5)) Tryz.underlying111 ⟨w.heap.size, 0, none⟩ 1 1 [.int .u8 z] (by simp) (fun j x h => ?_) (fun x h => by simp at h; rw [h]; rfl)
  have hb := heap_alloc_new w (.cells #[.int .u8 z] 5)
  have e : (⟨w.heap.size, 0, none⟩ : Addr).add j = ⟨w.heap.size, j, none⟩ := by cases j <;> simp [Addr.add]
  rw [e]
  simp only [World.cell?, hb]
  simpa using h
theorem flat_u8 (bs : List UInt8) : bs.flatMap u8v = bs.map fun c => Value.int .u8 (c.toNat : Int) := by
  induction bs with
  | nil => rfl
  | cons c l ih => rw [List.flatMap_cons, ih]; rfl
theorem bytes_str {W w' : World} {vo : Option Addr} {vc : Nat} {bs : List UInt8} (h : LAt W w' 5 1 u8v bs vo vc) : (convert 111 9 (.slice vo bs.length vc)).run Tryz.prog w' = .ok (.string ⟨bs.toArray⟩) w' := by
  rcases h.own.2 with ⟨e, e0⟩ | ⟨g, cap, cur, e, _⟩
  · have : bs = [] := List.length_eq_zero_iff.1 e0
    subst this
    cases e
    show Eq _ _
    kernel_rfl
  cases e
  refine run_convert_bytes_back w' 111 9 5 ⟨g, 0, none⟩ vc bs Tryz.underlying111 Tryz.underlying5 Tryz.underlying9 fun j hj => ?_
  refine h.own.cells rfl j _ ?_
  rw [flat_u8]
  simp [List.getElem?_eq_getElem hj]
theorem quo_next {T : List UInt8} {n k : Nat} {acc : List UInt8} {g : List Nat} {c : UInt8} {s1 : Ps} (h : nextP T (k, g) = .ok (c, s1)) : quoP T (n + 1) acc (k, g) = (if c = 34 then Pr.pure (⟨acc.toArray⟩ : ByteArray) else if c = 92 then (escP T k).bind fun b => quoP T n (acc ++ [b]) else if plainB c then quoP T n (acc ++ [c]) else fun _ => .error k) s1 := by
  rw [quoP]; exact Pr.bind_ok h
theorem isPlain60 (c : UInt8) (w : World) : Calls Tryz.prog 106 #[.int .u8 (c.toNat : Int)] w fun e w' => e = .returned (.bool (plainB c)) ∧ w' = w := by
  have hb : plainB c = (decide ((32 : Int) ≤ (c.toNat : Int)) && decide ((c.toNat : Int) ≤ 126)) := by
    unfold plainB; rw [Bool.eq_iff_iff]; simp; omega
  rw [hb]
  clear hb
  generalize (c.toNat : Int) = n
  go_enter Tryz.func106, Tryz.ntmps106
  go_wp2
  all_goals
    go_ret
    refine ⟨congrArg (fun b => Ending.returned (.bool b)) ?_, rfl⟩
    rw [Bool.eq_iff_iff]
    simp
    try omega
theorem quoted50 (p : Nat) (s : ByteArray) : PrC p s 79 #[.pointer (some ⟨p, 0, none⟩)] (quotedP s.data.toList) (fun x v => v = .string x) := by
  intro no W a g hR
  obtain ⟨R, hRes⟩ : ∃ R, R = quotedP s.data.toList (a, g) := ⟨_, rfl⟩
  rw [← hRes]
  have HRes := hidP hRes
  have HM := hidP (must_any p s 34 (by decide) no W a g hR)
  have HLen := hidP hR.len
  have HLt := hidP hR.lt
  have HN := hidP (next_any p s no)
  have HX := hidP (fun o => escape_any p s o no)
  clear hR hRes
  go_enter Tryz.func79, Tryz.ntmps79
  go_wp2_with (go_at_call 91; refine Hid.out ?_)
  unfold Hid
  rcases hr : mustP s.data.toList 34 (a, g) with o | q
  · rw [hr] at HM
    have Hr := hidP hr
    clear hr
    refine Calls.mono HM.out ?_
    rintro e' U ⟨hk, rfl⟩
    have HK := hidP hk
    clear hk
    go_wp2_with fail
    exact ⟨rfl, PrQ.err HK.out (by rw [HRes.out]; exact Pr.bind_err Hr.out)⟩
  obtain ⟨x, a1, g1⟩ := q
  rw [hr] at HM
  have HS0 : Hid (quoP s.data.toList D0 [] (a1, g) = R) := by
    have hg := (fw_must _ _ _ _ _ hr).2
    have hg : g1 = g := hg
    have h2 : quotedP s.data.toList (a, g) = quoP s.data.toList D0 [] (a1, g1) := Pr.bind_ok hr
    show _ = _; rw [HRes.out, h2, hg]
  clear hr
  refine Calls.mono HM.out ?_
  rintro e' U ⟨hk, hg, v, rfl, rfl, hR⟩
  have HK := hidP hk
  have HR := hidP hR
  have ha := hR.pos
  clear hk hR HM hg HRes
  go_wp2_with fail
  go_loopw [3] (fun v wr => ∃ (k n : Nat) (acc : List UInt8) (vo : Option Addr) (vc : Nat), k ≤ s.size ∧ s.size - k < n ∧ acc.length ≤ k ∧ v = .slice vo acc.length vc ∧ Hid (LAt W wr 5 1 u8v acc vo vc) ∧ Hid (TAt wr p s k no) ∧ Hid (KpR W wr p) ∧ Hid (quoP s.data.toList n acc (k, g) = R)) (fun _ wr => s.size - atOf wr p)
  case atStart => exact ⟨a1, D0, [], none, 0, ha, by have := HLen.out; show _ < 65537; omega, Nat.zero_le _, rfl, LAt.nil _ _ _ _ _, HR.out, HK.out, HS0.out⟩
  case round =>
    clear HR HK HS0 ha
    obtain ⟨k, n, acc, vo, vc, hk, hn, hal, rfl, HA, HR, HK, HS⟩ := hrel
    obtain ⟨d0, d1⟩ := HR.out.cells
    have hsz := HLen.out
    have hm : atOf wr p = k := HR.out.at
    have Hm := hidP hm
    clear hm
    go_wp2_with (go_at_call 108; refine Hid.out ?_)
    unfold Hid
    have hq := HN.out wr k g HR.out
    obtain ⟨n, rfl⟩ : ∃ m, n = m + 1 := ⟨n - 1, by omega⟩
    by_cases hlt : k < s.size
    · rw [next_ok g hlt] at hq
      have HS1 := hidP ((quo_next (acc := acc) (n := n) (next_ok g hlt)).symm.trans HS.out)
      have HAE := hidP HA.out.own
      generalize s[k]'hlt = c at hq HS1
      refine Calls.mono hq ?_
      rintro e' u ⟨hk', _, v, rfl, rfl, hR⟩
      have HR1 := hidP hR
      have HK1 := hidP (HK.out.trans hk' fun _ _ h => h)
      have HA1 := hidP (HA.out.blk hk' fun z e hz h => by have := HLt.out; omega)
      clear hk' hq hR HR HK HS HA d0 d1 HAE
      have e34 : ((c.toNat : Int) == 34) = decide (c = 34) := by
        rw [Bool.eq_iff_iff]; simp only [beq_iff_eq, decide_eq_true_eq]
        exact ⟨fun h => UInt8.toNat_inj.1 (by show c.toNat = 34; omega), fun h => by rw [h]; rfl⟩
      have e92 : ((c.toNat : Int) == 92) = decide (c = 92) := by
        rw [Bool.eq_iff_iff]; simp only [beq_iff_eq, decide_eq_true_eq]
        exact ⟨fun h => UInt8.toNat_inj.1 (by show c.toNat = 92; omega), fun h => by rw [h]; rfl⟩
      by_cases h34 : c = 34
      · rw [decide_eq_true h34] at e34
        have HE : Hid (R = .ok (⟨acc.toArray⟩, (k + 1, g))) := by show R = _; rw [← HS1.out, if_pos h34]; rfl
        have hcv := bytes_str HA1.out
        clear e92 h34
        go_wp2_with fail
        go_ret
        exact PrQ.ok HK1.out HE.out rfl HR1.out
      rw [decide_eq_false h34] at e34
      by_cases h92 : c = 92
      · rw [decide_eq_true h92] at e92
        have HS2 : Hid (((escP s.data.toList k).bind fun b => quoP s.data.toList n (acc ++ [b])) (k + 1, g) = R) := by show _ = R; rw [← HS1.out, if_neg h34, if_pos h92]
        clear h34 h92
        go_wp2_with (go_at_call 109; refine Hid.out ?_)
        unfold Hid
        have hq := HX.out k u (k + 1) g HR1.out
        rcases hr : escP s.data.toList k (k + 1, g) with o | q
        · rw [hr] at hq
          refine Calls.mono hq ?_
          rintro e' U2 ⟨hk', rfl⟩
          have HGe := hidP (HK1.out.trans hk' fun _ _ h => h)
          have HE : Hid (R = .error o) := by show R = _; rw [← HS2.out]; exact Pr.bind_err hr
          clear hk' hq hr
          go_wp2_with fail
          exact ⟨rfl, PrQ.err HGe.out HE.out⟩
        obtain ⟨b, k2, g2⟩ := q
        rw [hr] at hq
        have hf := fw_esc _ _ _ _ _ hr
        have hg2 : g2 = g := hf.2
        have hk2 : k + 1 ≤ k2 := hf.1
        subst hg2
        refine Calls.mono hq ?_
        rintro e' U2 ⟨hk', _, v, rfl, rfl, hR⟩
        have HE : Hid (quoP s.data.toList n (acc ++ [b]) (k2, g2) = R) := by show _ = R; rw [← HS2.out]; exact (Pr.bind_ok (f := fun b => quoP s.data.toList n (acc ++ [b])) hr).symm
        have HR2 := hidP hR
        have hp2 := hR.pos
        have HK2 := hidP (HK1.out.trans hk' fun _ _ h => h)
        have HA2 := hidP (HA1.out.blk hk' fun z e hz h => by have := HLt.out; omega)
        have HSr := hidP (srcU8 U2 (b.toNat : Int))
        clear hk' hq hr hR HR1 HK1 HS1 HS2 HA1 hf
        go_wp2_with (with_reducible show wpList Tryz.prog _ _ (Oper.mk (some 29) _ _ _ _ _ :: _) _ _; refine Hid.out ?_)
        unfold Hid
        refine wpList_append_any (P := Tryz.prog) _ rfl (.tmp 24) (.tmp 28) 111 111 rfl 5 (.int .u8 0) 1 Tryz.underlying111 infoU8 rfl _ acc.length (acc.flatMap u8v) rfl (HA2.out.own.alloc _) _ 1 [.int .u8 (b.toNat : Int)] rfl HSr.out (by omega) (by omega) ?_
        refine Hid.out ?_
        unfold Hid
        intro v' w1 hown hgrow hblk
        obtain ⟨vo', vc', rfl⟩ := own_formK hown
        have hL : acc.length + 1 = (acc ++ [b]).length := by simp
        rw [hL] at hown hblk ⊢
        have gA : Gr U2 (U2.alloc (.cells #[.int .u8 (b.toNat : Int)] 5)) := gr_alloc U2 _
        have kA : Keeps U2 w1 (fun z => (Value.slice vo acc.length vc).ownBlock = some z) := (gA.mono fun _ _ h => h.elim).trans (Keeps.ofGrown hgrow) (fun _ _ h => h)
        have HK3 : Hid (KpR W w1 p) := HK2.out.trans kA fun j hj h => by have := HA2.out.new j h; omega
        have HR3 : Hid (TAt w1 p s _ no) := ⟨(kA.block p HR2.out.lt fun h => by have := HA2.out.new p h; have := HLt.out; omega).trans HR2.out.box, HR2.out.len, HR2.out.pos⟩
        have HA3 : Hid (LAt W w1 5 1 u8v (acc ++ [b]) vo' vc') := ⟨by rw [List.flatMap_append]; exact hown, fun g e => hblk.elim (fun q => HA2.out.new g (q ▸ e)) (fun q => by have := q g e; have := HK2.out.size; have := gA.size; omega)⟩
        have HM := hidP HR3.out.at
        clear hown hgrow hblk gA kA hL HA2 HR2 HK2 HSr
        go_wp2_with fail
        go_roundw
        case rel => exact ⟨k2, n, acc ++ [b], vo', vc', hp2, by omega, by simp; omega, by simp, HA3.out, HR3.out, HK3.out, HE.out⟩
        case measure =>
          have h1 := HM.out
          have h2 := Hm.out
          rw [h2]
          refine Nat.lt_of_le_of_lt (Nat.le_of_eq (congrArg (s.size - ·) h1)) ?_
          omega
      rw [decide_eq_false h92] at e92
      have hq := fun V => isPlain60 c V
      have HQ := hidP hq
      clear hq
      cases hpl : plainB c with
      | true =>
        rw [hpl] at HQ
        have HE : Hid (quoP s.data.toList n (acc ++ [c]) (k + 1, g) = R) := by show _ = R; rw [← HS1.out, if_neg h34, if_neg h92, if_pos hpl]
        have hp2 := HR1.out.pos
        have HSr := hidP (srcU8 u (c.toNat : Int))
        clear hpl h34 h92 HS1
        go_wp2_with (first | (go_at_call 106; refine Calls.mono (HQ.out _) ?_; rintro e u ⟨rfl, rfl⟩) | (with_reducible show wpList Tryz.prog _ _ (Oper.mk (some 36) _ _ _ _ _ :: _) _ _; refine Hid.out ?_))
        unfold Hid
        refine wpList_append_any (P := Tryz.prog) _ rfl (.tmp 33) (.tmp 35) 111 111 rfl 5 (.int .u8 0) 1 Tryz.underlying111 infoU8 rfl _ acc.length (acc.flatMap u8v) rfl (HA1.out.own.alloc _) _ 1 [.int .u8 (c.toNat : Int)] rfl HSr.out (by omega) (by omega) ?_
        refine Hid.out ?_
        unfold Hid
        intro v' w1 hown hgrow hblk
        obtain ⟨vo', vc', rfl⟩ := own_formK hown
        have hL : acc.length + 1 = (acc ++ [c]).length := by simp
        rw [hL] at hown hblk ⊢
        have gA : Gr u (u.alloc (.cells #[.int .u8 (c.toNat : Int)] 5)) := gr_alloc u _
        have kA : Keeps u w1 (fun z => (Value.slice vo acc.length vc).ownBlock = some z) := (gA.mono fun _ _ h => h.elim).trans (Keeps.ofGrown hgrow) (fun _ _ h => h)
        have HK3 : Hid (KpR W w1 p) := HK1.out.trans kA fun j hj h => by have := HA1.out.new j h; omega
        have HR3 : Hid (TAt w1 p s _ no) := ⟨(kA.block p HR1.out.lt fun h => by have := HA1.out.new p h; have := HLt.out; omega).trans HR1.out.box, HR1.out.len, HR1.out.pos⟩
        have HA3 : Hid (LAt W w1 5 1 u8v (acc ++ [c]) vo' vc') := ⟨by rw [List.flatMap_append]; exact hown, fun g e => hblk.elim (fun q => HA1.out.new g (q ▸ e)) (fun q => by have := q g e; have := HK1.out.size; have := gA.size; omega)⟩
        have HM := hidP HR3.out.at
        clear hown hgrow hblk gA kA hL HA1 HR1 HK1 HSr
        go_wp2_with fail
        go_roundw
        case rel => exact ⟨k + 1, n, acc ++ [c], vo', vc', hp2, by omega, by simp; omega, by simp, HA3.out, HR3.out, HK3.out, HE.out⟩
        case measure =>
          have h1 := HM.out
          have h2 := Hm.out
          rw [h2]
          refine Nat.lt_of_le_of_lt (Nat.le_of_eq (congrArg (s.size - ·) h1)) ?_
          omega
      | false =>
        rw [hpl] at HQ
        have HE : Hid (R = .error k) := by show R = _; rw [← HS1.out, if_neg h34, if_neg h92, if_neg (by rw [hpl]; decide)]
        clear hpl h34 h92
        go_wp2_with (go_at_call 106; refine Calls.mono (HQ.out _) ?_; rintro e u ⟨rfl, rfl⟩)
        exact ⟨rfl, PrQ.err HK1.out HE.out⟩
    obtain rfl : k = s.size := by omega
    rw [next_end g] at hq
    have HE : Hid (R = .error s.size) := by show R = _; rw [← HS.out, quoP]; exact Pr.bind_err (next_end g)
    refine Calls.mono hq ?_
    rintro e' U2 ⟨hk', rfl⟩
    have HGe := hidP (HK.out.trans hk' fun _ _ h => h)
    clear hk' hq
    go_wp2_with fail
    exact ⟨rfl, PrQ.err HGe.out HE.out⟩
end Go.Proofs.YtkodgneneiledaaGreatDoor.Kit
