import Derived.Test.YtkodgneneiledaaGreatDoorZB
import Derived.Test.YtkodgneneiledaaGreatDoorVB
import Derived.Test.YtkodgneneiledaaGreatDoorSF
import Derived.Test.YtkodgneneiledaaGreatDoorUB
import Derived.Test.YtkodgneneiledaaGreatDoorYN
import Derived.Test.YtkodgneneiledaaGreatDoorLE
import Derived.Test.YtkodgneneiledaaGreatDoorLI
namespace Go.Proofs.YtkodgneneiledaaGreatDoor.Kit
open Go.RowKit Go.Shelf Go.Deep
set_option linter.unusedVariables false
attribute [local go_sem] run_store_func
theorem results_pf {fn : Func} {t u r : Tmp} {tmps : Array Value} {b : Nat} {y0 y1 y2 y3 y4 y5 y6 z x : Value} {w : World} (h : fn.results = #[.cell t 37, .tmp u, .tmp r]) (ht : tmps.getD t undef = .pointer (some ⟨b, 0, none⟩)) (hu : tmps.getD u undef = z) (hr : tmps.getD r undef = x) (hb : w.heap[b]? = some (.cells #[y0, y1, y2, y3, y4, y5, y6] 37 (0, 0))) :
    (results fn tmps).run Tryz.prog w = .ok (.tuple #[.agg #[y0, y1, y2, y3, y4, y5, y6], z, x]) w := by
  have c0 : w.cell? ⟨b, 0, none⟩ = some y0 := by simp [World.cell?, hb]
  have c1 : w.cell? ⟨b, 1, none⟩ = some y1 := by simp [World.cell?, hb]
  have c2 : w.cell? ⟨b, 2, none⟩ = some y2 := by simp [World.cell?, hb]
  have c3 : w.cell? ⟨b, 3, none⟩ = some y3 := by simp [World.cell?, hb]
  have c4 : w.cell? ⟨b, 4, none⟩ = some y4 := by simp [World.cell?, hb]
  have c5 : w.cell? ⟨b, 5, none⟩ = some y5 := by simp [World.cell?, hb]
  have c6 : w.cell? ⟨b, 6, none⟩ = some y6 := by simp [World.cell?, hb]
  unfold results
  rw [h]
  simp only [Array.mapM_eq_mapM_toList, List.mapM_cons, List.mapM_nil, ht, hu, hr]
  simp [asAddr, loadVar, go_sem, c0, c1, c2, c3, c4, c5, c6]
theorem first_upto (N : List LS) (k : Nat) (hk : k ≤ N.length) : AllR (N.take k) ∨ ∃ L x, (L ++ [x]) <+: N ∧ AllR L ∧ wrongE x L.length (tkL L) ≠ 0 := by
  induction k with
  | zero => exact .inl (by simpa using AllR.nil)
  | succ k ih =>
    rcases ih (by omega) with h | h
    · have hkl : k < N.length := by omega
      have hl : (N.take k).length = k := by rw [List.length_take]; omega
      by_cases hx : wrongE N[k] k (tkL (N.take k)) = 0
      · exact .inl (AllR.next hkl h hx)
      refine .inr ⟨N.take k, N[k], ?_, h, by rw [hl]; exact hx⟩
      rw [← List.take_succ_eq_append_getElem hkl]; exact List.take_prefix _ _
    exact .inr h
theorem first_or (N : List LS) : AllR N ∨ ∃ L x, (L ++ [x]) <+: N ∧ AllR L ∧ wrongE x L.length (tkL L) ≠ 0 := by
  have h := first_upto N N.length (Nat.le_refl _)
  rwa [List.take_length] at h
theorem fault_is (E : Int × Int) (N : List LS) : ∃ er p k, FaultIs E N er p k := by
  by_cases h : E.1 = 0
  · rcases first_or N with h1 | ⟨L, x, h1, h2, h3⟩
    · exact ⟨0, [], 0, .inr (.inl ⟨h, h1, rfl, rfl, rfl⟩)⟩
    exact ⟨_, _, 0, .inr (.inr ⟨h, L, x, h1, h2, h3, rfl, rfl, rfl⟩)⟩
  exact ⟨_, [], _, .inl ⟨h, rfl, rfl, rfl⟩⟩
theorem inner64 (p : Nat) (s : ByteArray) (d : Nat) (r : Pr FT) (hf : ∀ s0 x s1, r s0 = .ok (x, s1) → s0.1 < s1.1) (h35 : CmC p s d 35 #[.pointer (some ⟨p, 0, none⟩)] r (FV p d) XF) (h25 : ∀ nn, CmC p s d 25 #[.pointer (some ⟨p, 0, none⟩), .bool nn] (fldsP s.data.toList r nn) (LV p d) XL) (k : Nat) (h1 : 14 ≤ k) (h2 : k ≤ 20) : DnC p s d 64 #[.pointer (some ⟨p, 0, none⟩), .int .i64 (k : Int)] (inrP s.data.toList r (k : Int)) (fun W w' t v => TV p (d + 1) W w' ((k : Int), t) v) XT := by
  have hk : k = 14 ∨ k = 15 ∨ k = 16 ∨ k = 17 ∨ k = 18 ∨ k = 19 ∨ k = 20 := by omega
  rcases hk with rfl | rfl | rfl | rfl | rfl | rfl | rfl
  · exact inner64_14 p s d r hf h35 h25
  · exact inner64_15 p s d r hf h35 h25
  · exact inner64_16 p s d r hf h35 h25
  · exact inner64_17 p s d r hf h35 h25
  · exact inner64_18 p s d r hf h35 h25
  · exact inner64_19 p s d r hf h35 h25
  exact inner64_20 p s d r hf h35 h25
theorem field35_all (p : Nat) (s : ByteArray) : ∀ d, DnC p s d 35 #[.pointer (some ⟨p, 0, none⟩)] (fieldP s.data.toList d) (FV p d) XF
  | 0 => fun W a g _ hd => absurd hd (Nat.not_lt_zero _)
  | d + 1 => by
    have ih := field35_all p s d
    have hf : ∀ s0 x s1, fieldP s.data.toList d s0 = .ok (x, s1) → s0.1 < s1.1 := fun s0 x s1 h => (field_fn d s0 x s1 h).1
    exact field35 p s d (inner64 p s d _ hf (cm_of ih (field35_dead p s)) fun nn => cm_of (fields25 p s d _ hf ih (field35_dead p s) nn) (fields25_dead p s (field35_dead p s) nn))
theorem field_doc (p : Nat) (s : ByteArray) : CmC p s D0 35 #[.pointer (some ⟨p, 0, none⟩)] (fieldP s.data.toList D0) (FV p D0) XF := cm_of (field35_all p s D0) (field35_dead p s)
theorem fields_doc (p : Nat) (s : ByteArray) : CmC p s D0 25 #[.pointer (some ⟨p, 0, none⟩), .bool false] (manyP s.data.toList (fieldP s.data.toList D0)) (LV p D0) XL :=
  cm_of (r := manyP s.data.toList (fieldP s.data.toList D0)) (fields25 p s D0 _ (fun s0 x s1 h => (field_fn D0 s0 x s1 h).1) (field35_all p s D0) (field35_dead p s) false) (fields25_dead p s (field35_dead p s) false)
theorem bnd_step {α β : Type} {q : Except Nat Ps} {r : Pr α} {n : α} {f : α → Pr β} (h : ∀ x st, bnd q r = .ok (x, st) → x = n) : bnd q (r.bind f) = bnd (qs (bnd q r)) (f n) := by
  cases q with
  | error o => rfl
  | ok st =>
    show r.bind f st = _
    rw [bp_start, bp_val f h]
    cases bnd (.ok st) r with
    | error o => rfl
    | ok y => rfl
theorem bnd_bp {α β : Type} {q : Except Nat Ps} {r : Pr α} {f : α → Pr β} : bnd q (r.bind f) = bp (bnd q r) f := by
  cases q with
  | error o => rfl
  | ok st => exact bp_start st r f
theorem qs_from {α : Type} {q : Except Nat Ps} {r : Pr α} {st : Ps} (h : qs (bnd q r) = .ok st) : ∃ st0, q = .ok st0 := by
  cases q with
  | error o => cases h
  | ok st0 => exact ⟨st0, rfl⟩
theorem str_post {W w' : World} {p : Nat} {s : ByteArray} {q : Except Nat (ByteArray × Ps)} {e : Ending} (h : DnQ W p s q (fun _ x v => v = .string x) (fun v => v = .string ⟨#[]⟩) e w') : ∃ x, e = .returned (.string x) ∧ KpN W w' p ∧ DS w' p s (qs q) ∧ (∀ y st, q = .ok (y, st) → y = x) := by
  obtain ⟨hk, h⟩ := h
  cases q with
  | ok y => obtain ⟨x, a, g⟩ := y; obtain ⟨v, rfl, rfl, hA⟩ := h; exact ⟨x, rfl, hk, hA, fun y st e => by cases e; rfl⟩
  | error o => obtain ⟨v, rfl, rfl, hD⟩ := h; exact ⟨⟨#[]⟩, rfl, hk, hD, fun y st e => by cases e⟩
def mq (s : ByteArray) (q : Except Nat Ps) : Nat := match q with | .ok st => s.size + 1 - (st.1 + skN (s.data.toList.drop st.1)) | .error _ => 0
theorem DS.m {W : World} {p : Nat} {s : ByteArray} {q : Except Nat Ps} (h : DS W p s q) : dM s W p = mq s q := by
  cases q with
  | ok st => exact DA.m (c := st.1) (g := st.2) h
  | error o => exact DD.m h
theorem DS.pos {W : World} {p : Nat} {s : ByteArray} {q : Except Nat Ps} (h : DS W p s q) : ∀ st, q = .ok st → st.1 ≤ s.size := fun st e => by
  subst e
  exact DA.pos (a := st.1) (g := st.2) h
structure PS (X U : World) (p : Nat) (s : ByteArray) (b c : Nat) (q : Except Nat Ps) (x y : Value) : Prop where
  rb : U.heap[b]? = some (.cells #[.slice none 0 0, .slice none 0 0] 27 (0, 0))
  tb : U.heap[c]? = some (.cells #[x, y] 27 (0, 0))
  lt : b < p ∧ p < c ∧ c < X.heap.size
  kp : KX X U p c
  ds : DS U p s q
theorem PS.cok {X U : World} {p b c : Nat} {s : ByteArray} {q : Except Nat Ps} {x y : Value} (h : PS X U p s b c q x y) : c ≠ p ∧ ¬ IntsB p U c := ⟨by have := h.lt; omega, IntsB.of h.tb (by decide)⟩
theorem PS.bok {X U : World} {p b c : Nat} {s : ByteArray} {q : Except Nat Ps} {x y : Value} (h : PS X U p s b c q x y) : b ≠ p ∧ ¬ IntsB p U b := ⟨by have := h.lt; omega, IntsB.of h.rb (by decide)⟩
theorem PS.call {X U U' : World} {p b c : Nat} {s : ByteArray} {q q' : Except Nat Ps} {x y : Value} (h : PS X U p s b c q x y) (k : KpN U U' p) (hd : DS U' p s q') : PS X U' p s b c q' x y :=
  ⟨(k.blk (lt_of_heap h.rb) h.bok.1 h.bok.2).trans h.rb, (k.blk (lt_of_heap h.tb) h.cok.1 h.cok.2).trans h.tb, h.lt, h.kp.tr k, hd⟩
theorem PS.gr {X U U' : World} {p b c : Nat} {s : ByteArray} {q : Except Nat Ps} {x y : Value} (h : PS X U p s b c q x y) (g : Gr U U') : PS X U' p s b c q x y := h.call (Gr.n p g) (h.ds.gr g)
theorem PS.set {X U U' : World} {p b c : Nat} {s : ByteArray} {q : Except Nat Ps} {x y x' y' : Value} (h : PS X U p s b c q x y) (k : Keeps U U' (fun z => z = c)) (hb : U'.heap[c]? = some (.cells #[x', y'] 27 (0, 0))) : PS X U' p s b c q x' y' :=
  ⟨(k.block b (lt_of_heap h.rb) (by have := h.lt; omega)).trans h.rb, hb, h.lt, h.kp.trans k fun z hz e => .inr (.inl e), h.ds.kept k fun z e => by rw [e]; exact h.cok⟩
theorem PS.base {V X U : World} {p b c : Nat} {s : ByteArray} {q : Except Nat Ps} {x y : Value} (h : PS V U p s b c q x y) (hs : V.heap.size ≤ U.heap.size) : PS U U p s b c q x y := ⟨h.rb, h.tb, ⟨h.lt.1, h.lt.2.1, lt_of_heap h.tb⟩, KX.refl U p c, h.ds⟩
theorem note_push {X U2 w1 : World} {p b c : Nat} {s : ByteArray} {q : Except Nat Ps} {x : Value} {acc : List (ByteArray × ByteArray)} {no no' : Option Addr} {nc nc' : Nat} {y0 y1 : ByteArray} (hP : PS X U2 p s b c q x (.slice no acc.length nc)) (hA : LAt X U2 70 2 ncel acc no nc) (hown : w1.ownsRow 0 70 2 (.slice no' (acc.length + 1) nc') (acc.length + 1) (acc.flatMap ncel ++ [.string y0, .string y1]))
    (hgrow : (U2.alloc (.cells #[.string y0, .string y1] 70)).grownBy w1 (Value.slice no acc.length nc).ownBlock) (hblk : (Value.slice no' (acc.length + 1) nc').ownBlock = (Value.slice no acc.length nc).ownBlock ∨ ∀ q, (Value.slice no' (acc.length + 1) nc').ownBlock = some q → (U2.alloc (.cells #[.string y0, .string y1] 70)).heap.size ≤ q) :
    w1.cell? ⟨c, 1, none⟩ = some (.slice no acc.length nc) ∧ w1.frozen? ⟨c, 1, none⟩ = false ∧ PS X (w1.setCell ⟨c, 1, none⟩ (.slice no' (acc.length + 1) nc')) p s b c q x (.slice no' (acc ++ [(y0, y1)]).length nc') ∧ LAt X (w1.setCell ⟨c, 1, none⟩ (.slice no' (acc.length + 1) nc')) 70 2 ncel (acc ++ [(y0, y1)]) no' nc' := by
  have gA : Gr U2 (U2.alloc (.cells #[.string y0, .string y1] 70)) := gr_alloc U2 _
  have kA : Keeps U2 w1 (fun z => (Value.slice no acc.length nc).ownBlock = some z) := (gA.mono fun _ _ h => h.elim).trans (Keeps.ofGrown hgrow) (fun _ _ h => h)
  have hnew : ∀ z, (Value.slice no acc.length nc).ownBlock = some z → X.heap.size ≤ z := fun z h => hA.new z h
  have hl := hP.lt
  have hrb := (kA.block b (lt_of_heap hP.rb) fun h => by have := hnew b h; omega).trans hP.rb
  have htb := (kA.block c (lt_of_heap hP.tb) fun h => by have := hnew _ h; omega).trans hP.tb
  have hD := hP.ds.kept kA fun z h => by obtain ⟨cs, hb⟩ := own_blk hA.own h; have h1 := hnew z h; exact ⟨by omega, IntsB.of hb (by decide)⟩
  have hX1 : KX X w1 p c := hP.kp.trans kA fun j hj h => by have := hnew j h; omega
  have hP1 : PS X w1 p s b c q x (.slice no acc.length nc) := ⟨hrb, htb, hl, hX1, hD⟩
  have hL : (acc ++ [(y0, y1)]).length = acc.length + 1 := by simp
  have e1 : [(y0, y1)].flatMap ncel = [.string y0, .string y1] := rfl
  have hA1 : LAt X w1 70 2 ncel (acc ++ [(y0, y1)]) no' nc' := ⟨by rw [List.length_append, List.flatMap_append, e1]; exact hown, fun q h => by rw [List.length_append] at h; exact hblk.elim (fun r => hnew q (r ▸ h)) (fun r => by have := r q h; have := gA.size; have := hP.kp.size; omega)⟩
  refine ⟨by simp [World.cell?, htb], frz htb 1, hP1.set IS.kS (by rw [hL]; exact heap_setCell_same _ c 1 _ _ _ htb), hA1.blk IS.kS fun z h hz hS => by omega⟩
theorem gr_of {W X U w' : World} {p c b : Nat} (hb : b = W.heap.size) (hl : b < p ∧ p < c ∧ c < X.heap.size) (g : Gr W X) (k : KX X U p c) (k3 : Keeps U w' (fun z => z = b)) : Gr W w' :=
  (g.trans k fun j hj h => by rcases h with h | h | h; · omega
                              · omega
                              have := h.1; omega).trans k3 fun j hj h => by omega
def finP {α : Type} (T : List UInt8) (x : α) : Pr α := (endP T).bind fun _ => Pr.pure x
theorem Pr.bind_congr {α β : Type} {r r' : Pr α} {f : α → Pr β} {s s' : Ps} (h : r s = r' s') : r.bind f s = r'.bind f s' := by unfold Pr.bind; rw [h]
theorem wh_none {T : List UInt8} {b0 : Nat} (hb : b0 = 0 + skN (T.drop 0)) (h : (sk (T.drop 0)).headD 0 = 124 ∨ ¬ b0 < T.length) : whP T (schP T) (0, []) = bnd (.ok (b0, [])) ((notesP T []).bind (finP T)) := by
  have e : schP T (0, []) = notesP T [] (b0, []) := by
    subst hb
    unfold schP
    rw [Pr.bind_ok (r := peekP T) rfl]
    exact if_neg (fun hh => h.elim (fun h => hh.1 h) fun h => h hh.2)
  exact Pr.bind_congr (f := finP T) e
theorem wh_some {T : List UInt8} {b0 : Nat} (hb : b0 = 0 + skN (T.drop 0)) (h1 : (sk (T.drop 0)).headD 0 ≠ 124) (h2 : b0 < T.length) : whP T (schP T) (0, []) = bnd (.ok (b0, [])) ((manyP T (fieldP T D0)).bind fun l => (notesP T l).bind (finP T)) := by
  have e : schP T (0, []) = (manyP T (fieldP T D0)).bind (notesP T) (b0, []) := by
    subst hb
    unfold schP
    rw [Pr.bind_ok (r := peekP T) rfl]
    exact if_pos ⟨h1, h2⟩
  rw [← Pr.assoc]
  exact Pr.bind_congr (f := finP T) e
def G2 {α : Type} (T : List UInt8) (l : List FT) (n : Nat) (acc : List (ByteArray × ByteArray)) : Pr (List FT × List (ByteArray × ByteArray)) := (comP T (noteP T) n acc).bind fun ns => finP T (l, ns)
theorem notes_take (T : List UInt8) (l : List FT) : (notesP T l).bind (finP T) = (takesP T 124).bind fun b => if b then (quotedP T).bind fun k => (quotedP T).bind fun t => G2 (α := Unit) T l D0 [(k, t)] else finP T (l, []) := by
  unfold notesP
  rw [Pr.assoc]
  congr 1
  funext b
  cases b with
  | false => rfl
  | true =>
    show ((manyP T (noteP T)).bind fun ns => Pr.pure (l, ns)).bind (finP T) = _
    unfold manyP G2
    have e : ∀ f : ByteArray × ByteArray → Pr (List FT × List (ByteArray × ByteArray)), (noteP T).bind f = (quotedP T).bind fun k => (quotedP T).bind fun t => f (k, t) := fun f => by unfold noteP; simp only [Pr.assoc, Pr.pureB]
    simp only [Pr.assoc, Pr.pureB]
    rw [e]
    rfl
theorem notes_more (T : List UInt8) (l : List FT) (n : Nat) (acc : List (ByteArray × ByteArray)) : G2 (α := Unit) T l (n + 1) acc = (takesP T 44).bind fun b => if b then (quotedP T).bind fun k => (quotedP T).bind fun t => G2 (α := Unit) T l n (acc ++ [(k, t)]) else finP T (l, acc) := by
  unfold G2
  rw [comP, Pr.assoc]
  congr 1
  funext b
  cases b with
  | false => rfl
  | true =>
    show ((noteP T).bind fun x => comP T (noteP T) n (acc ++ [x])).bind _ = _
    have e : ∀ f : ByteArray × ByteArray → Pr (List FT × List (ByteArray × ByteArray)), (noteP T).bind f = (quotedP T).bind fun k => (quotedP T).bind fun t => f (k, t) := fun f => by unfold noteP; simp only [Pr.assoc, Pr.pureB]
    rw [Pr.assoc, e]
    rfl
theorem wh_names {T : List UInt8} {l : List FT} {ns : List (ByteArray × ByteArray)} {a : Nat} {g : List Nat} (h : whP T (schP T) (0, []) = .ok ((l, ns), (a, g))) : g.length = nP (D0 + 1) l := by
  obtain ⟨x, s1, e1, e2⟩ := Pr.inv h
  obtain ⟨u, s2, e3, e4⟩ := Pr.inv e2
  cases e4
  have h1 := sch_names e1
  have h2 := (fw_end _ _ _ _ e3).2
  have h3 : g = s1.2 := h2
  rw [h3, h1]
  simp
theorem fault_nodes {E : Int × Int} {D : Nat} {fs : List FT} {er : Int} {p : List Nat} {k : Int} (h : FaultIs E (grown [] (nodesC D fs [] false)) er p k) : FaultIs E (nodes D fs [] false) er p k := by
  obtain ⟨er', p', k', h'⟩ := fault_is E (nodes D fs [] false)
  obtain ⟨rfl, rfl, rfl⟩ := h.one h'.cut
  exact h'
theorem way_len : ∀ (d : Nat) (l : List FT) (p : List Nat), Way d l p → p.length ≤ d
  | 0, _, [], _ => Nat.le_refl _
  | 0, _, _ :: _, h => h.elim
  | d + 1, _, [], h => h.elim
  | d + 1, l, n :: p, h => by
    by_cases e : p = []
    · subst e; simp
    have := way_len d _ p (h.2 e)
    simp; omega
theorem way_of {D : Nat} {l : List FT} {L : List LS} {x : LS} (h : L ++ [x] <+: nodes D l [] false) : Way D l x.path ∧ plc D l x.path = L.length := by
  obtain ⟨m, hm⟩ := h
  have e : (nodes D l [] false)[L.length]? = some x := by rw [← hm]; simp
  obtain ⟨q, h1, h2, h3⟩ := node_plc D l [] false L.length x e
  rw [List.nil_append] at h1
  rw [h1]
  exact ⟨h2, h3⟩
theorem row_end {X U V1 : World} {p c D : Nat} {fo : Option Addr} {l : List FT} (h : RowAt (NB p V1 X) X D fo l) (k : KX X U p c) (hp : p < V1.heap.size) (hc : c < V1.heap.size) : RowAt (fun z => V1.heap.size ≤ z ∧ z < U.heap.size) U D fo l :=
  (h.kept fun z hz => k.block z hz.2.1 fun e => by
    rcases e with e | e | e
    · have := hz.1; omega
    · have := hz.1; omega
    exact hz.2.2 e).mono fun z hz => ⟨hz.1, Nat.lt_of_lt_of_le hz.2.1 k.size⟩
theorem quo2_ge {s : ByteArray} {q : Except Nat Ps} {st : Ps} (e : qs (bnd (qs (bnd q (quotedP s.data.toList))) (quotedP s.data.toList)) = .ok st) : ∃ st0, q = .ok st0 ∧ st0.1 ≤ st.1 := by
  cases q with
  | error o => cases e
  | ok st0 =>
    refine ⟨st0, rfl, ?_⟩
    have h1 : Ge st0.1 (.ok st0) := fun st e => by cases e; exact Nat.le_refl _
    exact (h1.bnd (fw_quoted s.data.toList)).bnd (fw_quoted s.data.toList) st e
theorem takes_true {s : ByteArray} {q : Except Nat Ps} {bv : Bool} (e : bv = true) (hv : ∀ y st, bnd q (takesP s.data.toList 44) = .ok (y, st) → y = bv) (hve : ∀ o, bnd q (takesP s.data.toList 44) = .error o → bv = false) (hp : ∀ st, q = .ok st → st.1 ≤ s.size) : ∃ a0 g0 a2, q = .ok (a0, g0) ∧ qs (bnd q (takesP s.data.toList 44)) = .ok (a2, g0) ∧ a2 = a0 + skN (s.data.toList.drop a0) + 1 ∧ a0 ≤ s.size := by
  cases q with
  | error o => have := hve o rfl; rw [e] at this; cases this
  | ok st =>
    obtain ⟨a0, g0⟩ := st
    have h0 := hp _ rfl
    by_cases hh : (sk (s.data.toList.drop a0)).headD 0 = 44
    · have hr : takesP s.data.toList 44 (a0, g0) = .ok (true, (a0 + skN (s.data.toList.drop a0) + 1, g0)) := takes_yes (c := 44) g0 hh
      refine ⟨a0, g0, _, rfl, ?_, rfl, h0⟩
      show qs (takesP s.data.toList 44 (a0, g0)) = _
      rw [hr]
      rfl
    have hr := takes_no (c := 44) g0 hh
    have := hv _ _ hr
    rw [e] at this
    cases this
theorem gr_kx {W V U : World} {p c b : Nat} (hb : b = W.heap.size) (hl : b < p ∧ p < c) (g : Gr W V) (k : KX V U p c) : Gr W U := g.trans k fun j hj h => by
  rcases h with h | h | h
  · omega
  · omega
  have := h.1; omega
theorem cell_at {w : World} {b t : Nat} {cs : Array Value} (h : w.heap[b]? = some (.cells cs t (0, 0))) (i : Nat) {v : Value} (hv : cs[i]? = some v) : w.cell? ⟨b, i, none⟩ = some v := by simp [World.cell?, h, hv]
theorem g2_more {s : ByteArray} {R : Except Nat ((List FT × List (ByteArray × ByteArray)) × Ps)} {q3 : Except Nat Ps} {l : List FT} {n a0 a2 : Nat} {g0 : List Nat} {acc : List (ByteArray × ByteArray)} (h : R = bnd q3 (G2 (α := Unit) s.data.toList l n acc)) (hg : ∀ st, q3 = .ok st → ∃ st0, (.ok (a2, g0) : Except Nat Ps) = .ok st0 ∧ st0.1 ≤ st.1) (hn : s.size - a0 < n + 1) (ha : a0 < a2) (h2 : a2 ≤ s.size) : ∃ m, R = bnd q3 (G2 (α := Unit) s.data.toList l m acc) ∧ (∀ st, q3 = .ok st → s.size - st.1 < m) ∧ 1 ≤ m := by
  cases q3 with
  | error o => exact ⟨1, h, fun st e => (by cases e), Nat.le_refl _⟩
  | ok st =>
    obtain ⟨st0, e0, hl0⟩ := hg st rfl
    cases e0
    have hl1 : a2 ≤ st.1 := hl0
    exact ⟨n, h, fun st' e => (by cases e; omega), by omega⟩
theorem wp_mid {c : Code} {Q' : Exit → Act → World → Prop} {a : Act} {w : World} (R : Act → Exit → Act → World → Prop) (h : c.wp Tryz.prog (R a) a w) (hq : ∀ e a' w', R a e a' w' → Q' e a' w') : c.wp Tryz.prog Q' a w := wp_mono h hq
end Go.Proofs.YtkodgneneiledaaGreatDoor.Kit
