import Derived.Test.YtomlndoffoeaiaaRmE
import Derived.Test.YtomlndoffoeaiaaRmI
import Derived.Laws.CopyOwn
namespace Go.Proofs.Ytomlndoffoeaiaa.Kit
open Go.RowKit Go.Deep
set_option linter.unusedVariables false

/-! ### begun -/
theorem share1 {G : Prop} {α : Type} (Fx : α → World → Prop) {M : α → World → Prop} (h1 : (∀ x w', Fx x w' → M x w') → G) (h2 : ∀ x w', Fx x w' → M x w') : G := h1 h2
theorem share2 {G : Prop} {α β : Type} (Fx : α → β → World → Prop) {M : α → β → World → Prop} (h1 : (∀ x y w', Fx x y w' → M x y w') → G) (h2 : ∀ x y w', Fx x y w' → M x y w') : G := h1 h2
theorem share3 {G : Prop} {α β γ : Type} (Fx : α → β → γ → World → Prop) {M : α → β → γ → World → Prop} (h1 : (∀ x y z w', Fx x y z w' → M x y z w') → G) (h2 : ∀ x y z w', Fx x y z w' → M x y z w') : G := h1 h2
def fifty (l : List Int) : List Int := l ++ List.replicate 9 55
theorem byteRow_set (l : List Int) (j : Nat) (x : Int) : (byteRow l).setIfInBounds j (.int .u8 x) = byteRow (l.set j x) := by simp [byteRow, List.map_set]
theorem splice_head (l : List Int) : splice ((List.replicate (l.length + 9) 0).map (Value.int .u8)) 0 (l.map (Value.int .u8)) = (l ++ List.replicate 9 0).map (Value.int .u8) := by
  simp [splice]
theorem fill_step (l : List Int) (i : Nat) (h : i < 9) : (l ++ List.replicate i 55 ++ List.replicate (9 - i) 0).set (l.length + i) 55 = l ++ List.replicate (i + 1) 55 ++ List.replicate (9 - (i + 1)) 0 := by
  apply List.ext_getElem?
  intro j
  simp only [List.getElem?_set, List.getElem?_append, List.getElem?_replicate, List.length_append, List.length_replicate]
  repeat' split
  all_goals first | rfl | omega
theorem made_list (n : Nat) : (madeCells #[.int .u8 0] n) = ((List.replicate n 0).map (Value.int .u8)).toArray := by
  apply Array.ext_getElem?
  intro j
  by_cases h : j < n
  · simp [madeCells, Nat.mod_one, h]
  · simp [madeCells, Nat.mod_one, h]
/-- the room as it begins -/
def g00 (l : List Int) : Gh := { L := fifty l, S := [], gq1 := none, gq2 := none, w1 := [], w2 := [], t1 := [], t2 := [], D9 := [], D10 := [], v2 := .slice none 0 0, v7 := .slice none 0 0, v8 := .slice none 0 0, v9 := .slice none 0 0, v10 := .slice none 0 0, v11 := .slice none 0 0, v12 := .slice none 0 0, v13 := .slice none 0 0, v14 := .slice none 0 0, N1 := 0, N2 := 0, N4 := 0, N8 := 0, R1 := fun _ => .slice none 0 0, R2 := fun _ => .slice none 0 0, R4 := fun _ => .slice none 0 0, R8 := fun _ => .slice none 0 0, l1 := fun _ => 0, l2 := fun _ => 0, l4 := fun _ => 0, l8 := fun _ => 0 }
theorem ft00 {c : Cn} {l : List Int} {i : Ix} {b : Nat} (h : ft c (g00 l) i b) : (i = .all ∧ b = c.A) ∨ (i = .room ∧ b = c.m) ∨ (i = .w1 ∧ b = c.q1) ∨ (i = .w2 ∧ b = c.q2) := by
  cases i <;> simp [ft, g00, Value.ownBlock] at h ⊢ <;> first | exact h | exact h.symm | omega
theorem Inv.begin {c : Cn} {l : List Int} {W : World} (h1 : c.A ≠ c.m) (h2 : c.q1 ≠ c.m ∧ c.q1 ≠ c.A) (h3 : c.q2 ≠ c.m ∧ c.q2 ≠ c.A ∧ c.q2 ≠ c.q1) (hm : W.heap[c.m]? = some (.cells (csOf c (g00 l)) 87 (0, 0))) (ha : W.heap[c.A]? = some (.cells (byteRow (fifty l)) 5 (0, 0)))
    (hq1 : W.heap[c.q1]? = some (.cells #[.slice none 0 0] 109 (0, 0))) (hq2 : W.heap[c.q2]? = some (.cells #[.slice none 0 0] 109 (0, 0))) : Inv c W (g00 l) := by
  refine ⟨fun i => ?_, fun i b hb => ?_, fun i j b hi hj => ?_⟩
  · cases i with
    | all => exact ha
    | room => exact hm
    | seen => exact World.ownsRow_nil _ _ _ _
    | w1 => exact ⟨_, hq1, World.ownsRow_nil _ _ _ _, rfl⟩
    | w2 => exact ⟨_, hq2, World.ownsRow_nil _ _ _ _, rfl⟩
    | t1 => exact World.ownsRow_nil _ _ _ _
    | t2 => exact World.ownsRow_nil _ _ _ _
    | r9 => exact World.ownsRow_nil _ _ _ _
    | r10 => exact World.ownsRow_nil _ _ _ _
    | n1 => exact NL.nil _ _ _ _ _ _ _ _
    | n2 => exact NL.nil _ _ _ _ _ _ _ _
    | n4 => exact NL.nil _ _ _ _ _ _ _ _
    | n8 => exact NL.nil _ _ _ _ _ _ _ _
  · have l1 := (Array.getElem?_eq_some_iff.1 hm).1
    have l2 := (Array.getElem?_eq_some_iff.1 ha).1
    have l3 := (Array.getElem?_eq_some_iff.1 hq1).1
    have l4 := (Array.getElem?_eq_some_iff.1 hq2).1
    rcases ft00 hb with ⟨_, e⟩ | ⟨_, e⟩ | ⟨_, e⟩ | ⟨_, e⟩ <;> omega
  · rcases ft00 hi with ⟨e1, e⟩ | ⟨e1, e⟩ | ⟨e1, e⟩ | ⟨e1, e⟩ <;> rcases ft00 hj with ⟨e2, e'⟩ | ⟨e2, e'⟩ | ⟨e2, e'⟩ | ⟨e2, e'⟩ <;> first | (rw [e1, e2]; done) | (exfalso; omega)
/-- a step from the room's beginning leaves all that was there ahead of it -/
theorem Go.keeps {c : Cn} {w W w' : World} {g g' : Gh} (k : Keeps w W (fun _ => False)) (h : Go c NoF W g w' g') (hn : ∀ i b, ft c g i b → w.heap.size ≤ b) : Keeps w w' (fun _ => False) :=
  ⟨h.os.trans k.os, h.tape.trans k.tape, h.output.trans k.output, Nat.le_trans k.size h.size, fun b hb _ => (h.kp b (Nat.lt_of_lt_of_le hb k.size) (fun i hi => by have := hn i b hi; omega) id).trans (k.block b hb id)⟩
theorem Ok.begin {c : Cn} {g : Gh} {l : List Int} {NA : Nat} (hN : c.N ≤ 1048576) (hl : l.length = c.N) (hr : ∀ x ∈ l, 0 ≤ x ∧ x < 256) (hNA : NA = c.N + 9) (hL : g.L = fifty l) (hS : g.S = [⟨some ⟨c.A, 0, none⟩, c.N, NA, 0, some ⟨c.A, 0, none⟩, NA, 1⟩, ⟨some ⟨c.A, 0, none⟩, c.N, NA, 0, some ⟨c.A, 0, none⟩, NA, 0⟩, ⟨none, 0, 0, 0, none, 0, 0⟩])
    (h9 : g.D9 = []) (h10 : g.D10 = []) (hw1 : g.w1 = []) (ht1 : g.t1 = []) (hw2 : g.w2 = [(0, 1)]) (ht2 : g.t2 = [(0, 1)]) (n1 : g.N1 = 0) (n2 : g.N2 = 0) (n4 : g.N4 = 0) (n8 : g.N8 = 0) : Ok c g 1 := by
  have hv : VOk c.A c.N 0 (some ⟨c.A, 0, none⟩) c.N NA := VOk.head c.A c.N NA (by omega) (by omega)
  refine ⟨hN, by rw [hL]; simp [fifty, hl], fun x hx => ?_, fun j h1 h2 => ?_, fun s hs => ?_, by rw [hS]; simp, by rw [hS]; simp, by rw [h9, h10], (fun s hs => by rw [h9] at hs; cases hs), by rw [hw1, ht1], by rw [hw2, ht2], by rw [ht1]; simp, by rw [ht2]; simp, by rw [h9]; simp, by omega, by omega, by omega, by omega, fun i hi => by omega, fun i hi => by omega, fun i hi => by omega, fun i hi => by omega⟩
  · rw [hL] at hx
    rcases List.mem_append.1 hx with h | h
    · exact hr x h
    · have := List.eq_of_mem_replicate h
      omega
  · rw [hL]
    unfold fifty
    rw [List.getElem?_append_right (by omega), List.getElem?_replicate, if_pos (by omega)]
  · rw [hS] at hs
    simp only [List.mem_cons, List.not_mem_nil, or_false] at hs
    rcases hs with rfl | rfl | rfl
    · exact ⟨hv, hv, by show 1 ≤ 2; omega⟩
    · exact ⟨hv, hv, Nat.zero_le _⟩
    · exact ⟨VOk.nil _ _, VOk.nil _ _, Nat.zero_le _⟩
/-- a copy, and what else lies where -/
theorem wpList_copy_kp {w : World} {ops : Array Oper} {rest : List Oper} {o : Oper} {a : Act} {Q : Exit → Act → World → Prop} (hgd : o.guard = none) (d s : Operand)
    (ho : o.op = .call { callee := .builtin .copy, args := #[d, s], argTypes := #[22, 22] })
    (g : Nat) (sp : Option Addr) (dLen dCap sLen sCap : Nat) (hd : a.eval d = .slice (some ⟨g, 0, none⟩) dLen dCap) (hs : a.eval s = .slice sp sLen sCap)
    (cur cs : List Value) (hg : w.heap[g]? = some (.cells cur.toArray 5 (0, 0))) (hn : cs.length = Nat.min sLen dLen)
    (hpos : 0 < cs.length → ∃ ad, sp = some ad ∧ ∀ j v, cs[j]? = some v → w.cell? (ad.add j) = some v)
    (hfit : cs.length ≤ cur.length) (h1 : ∀ v ∈ cs, v.oneCell' = true)
    (h : ∀ w', Hid (w'.heap[g]? = some (.cells (splice cur 0 cs).toArray 5 (0, 0)) ∧ Keeps w w' (fun b => b = g)) → wpList Try.prog ops Q rest (a.put o.dst (goInt cs.length)) w') : wpList Try.prog ops Q (o :: rest) a w := by
  by_cases h0 : cs.length = 0
  · have e : cs = [] := List.eq_nil_of_length_eq_zero h0
    subst e
    refine wpList_copy_nothing hgd d s 22 22 ho 5 Try.underlying22 size5 _ sp dLen dCap sLen sCap hd hs (by simpa using hn.symm) ?_
    exact h w ⟨by simpa [splice] using hg, Keeps.refl _ _⟩
  · obtain ⟨ad, e, hsrc⟩ := hpos (by omega)
    subst e
    refine wpList_copy_own hgd d s 22 22 ho 5 Try.underlying22 size5 g 0 dLen dCap ad sLen sCap hd hs cur.toArray 5 hg cs hn hsrc (by simpa using hfit) h1 ?_
    refine h _ ⟨by simpa [splice] using setRow_heap w g _ _ 5 _ hg, ⟨rfl, rfl, rfl, by simp [World.setRow], fun k hk hn' => setRow_other w g k _ hn'⟩⟩
set_option maxRecDepth 100000 in
set_option maxHeartbeats 8000000 in
theorem begun_inv (ao : Option Addr) (N cap : Nat) (l : List Int) (w : World) (hb : BytesAt w ao N l) (hl : l.length = N) (hr : ∀ x ∈ l, 0 ≤ x ∧ x < 256) (hN : N ≤ 1048576) :
    Calls Try.prog 8 #[.slice ao N cap] w fun e w' => ∃ c g, e = .returned (.tuple #[.pointer (some ⟨c.m, 0, none⟩), .bool true]) ∧ Inv c w' g ∧ Ok c g 1 ∧ Keeps w w' (fun _ => False) ∧ ∀ i b, ft c g i b → w.heap.size ≤ b := by
  have HBy := hidM hb
  have HLn := hidM hl
  have HRg := hidM hr
  clear hb hl hr
  obtain ⟨NA, hNA⟩ : ∃ NA, NA = N + 9 := ⟨_, rfl⟩
  have HNA := hidM hNA
  have hNAb : NA ≤ 2000000 := by omega
  have hadd : IntKind.i64.wrap ((N : Int) + 9) = (NA : Int) := by rw [IntKind.wrap_i64, hNA]; push_cast; omega
  have hmk := make_bytes NA (by omega)
  clear hNA
  go_enter Try.func8, Try.ntmps8
  obtain ⟨A, hA⟩ : ∃ A, A = w.heap.size := ⟨_, rfl⟩
  obtain ⟨m, hm⟩ : ∃ m, m = w.heap.size + 1 := ⟨_, rfl⟩
  obtain ⟨cur, hcur⟩ : ∃ cur : List Value, cur = (List.replicate NA 0).map (Value.int .u8) := ⟨_, rfl⟩
  obtain ⟨lc, hlc⟩ : ∃ lc : List Value, lc = l.map (Value.int .u8) := ⟨_, rfl⟩
  obtain ⟨W1, hW1⟩ : ∃ W1, W1 = (w.alloc (.cells (madeCells #[.int .u8 0] NA) 5)).alloc (.cells #[.slice (some ⟨w.heap.size, 0, none⟩) NA NA, .int .i64 N, .slice none 0 0, .pointer none, .pointer none, .pointer none, .slice none 0 0, .slice none 0 0, .slice none 0 0, .slice none 0 0, .slice none 0 0, .slice none 0 0, .slice none 0 0, .slice none 0 0, .slice none 0 0] 87) := ⟨_, rfl⟩
  have HK1 : Hid (Keeps w W1 (fun _ => False)) := by rw [hW1]; exact ((Keeps.refl _ _).alloc _).alloc _
  have HM1 : Hid (W1.heap[m]? = some (.cells #[.slice (some ⟨A, 0, none⟩) NA NA, .int .i64 N, .slice none 0 0, .pointer none, .pointer none, .pointer none, .slice none 0 0, .slice none 0 0, .slice none 0 0, .slice none 0 0, .slice none 0 0, .slice none 0 0, .slice none 0 0, .slice none 0 0, .slice none 0 0] 87 (0, 0))) := by
    have h := heap_alloc_new (w.alloc (.cells (madeCells #[.int .u8 0] NA) 5)) (.cells #[.slice (some ⟨A, 0, none⟩) NA NA, .int .i64 N, .slice none 0 0, .pointer none, .pointer none, .pointer none, .slice none 0 0, .slice none 0 0, .slice none 0 0, .slice none 0 0, .slice none 0 0, .slice none 0 0, .slice none 0 0, .slice none 0 0, .slice none 0 0] 87)
    have e : (w.alloc (.cells (madeCells #[.int .u8 0] NA) 5)).heap.size = m := by rw [hm]; simp
    rw [e] at h
    rw [hW1, ← hA]
    exact h
  have HA1 : Hid (W1.heap[A]? = some (.cells cur.toArray 5 (0, 0))) := by
    rw [hW1, hA, Below.heap_alloc _ _ _ (by simp), hcur, ← made_list]
    exact heap_alloc_new w _
  have HP1 : Hid (0 < lc.length → ∃ ad, ao = some ad ∧ ∀ j v, lc[j]? = some v → W1.cell? (ad.add j) = some v) := fun h0 => by
    have hN0 : 0 < N := by rw [hlc] at h0; simp at h0; have := HLn.out; omega
    obtain ⟨b, off, e, hc⟩ := HBy.out hN0
    refine ⟨_, e, fun j v hj => ?_⟩
    rw [hlc, List.getElem?_map] at hj
    have hjn : j < l.length := by
      rcases Nat.lt_or_ge j l.length with h | h
      · exact h
      · rw [List.getElem?_eq_none h] at hj; cases hj
    rw [List.getElem?_eq_getElem hjn] at hj
    simp only [Option.map_some, Option.some.injEq] at hj
    rw [Addr.add_lit, ← hj]
    have := hc j (by have := HLn.out; omega)
    simp only [List.getD_eq_getElem?_getD, List.getElem?_eq_getElem hjn, Option.getD_some] at this
    exact HK1.out.cell' this id
  have HAm : Hid (A ≠ m) := by rw [hA, hm]; exact Nat.ne_of_lt (Nat.lt_succ_self _)
  have HWA : Hid (w.heap.size ≤ A ∧ w.heap.size ≤ m) := by rw [hA, hm]; exact ⟨Nat.le_refl _, Nat.le_succ _⟩
  have hmn : (m : Nat) = w.heap.size + 1 := hm
  have HCur := hidM hcur
  have HLc := hidM hlc
  have c0 : W1.cell? ⟨m, 0, none⟩ = some (.slice (some ⟨A, 0, none⟩) NA NA) := by rw [cell_of_row _ m 0 _ _ _ HM1.out]; rfl
  have Hn : Hid (lc.length = Nat.min N NA) := hidM (by rw [HLc.out, List.length_map, HLn.out, HNA.out]; simp)
  have Hf : Hid (lc.length ≤ cur.length) := hidM (by rw [HLc.out, List.length_map, HLn.out, HCur.out, HNA.out]; simp)
  have H1 : Hid (∀ v ∈ lc, v.oneCell' = true) := fun v hv => by rw [HLc.out] at hv; obtain ⟨x, _, rfl⟩ := List.mem_map.1 hv; rfl
  have HRm : Hid (∀ w2, Keeps W1 w2 (fun b => b = A) → w2.cell? ⟨m, 0, none⟩ = some (.slice (some ⟨A, 0, none⟩) NA NA) ∧ w2.cell? ⟨m, 1, none⟩ = some (.int .i64 N)) := fun w2 hk => by
    have h := hk.row HM1.out fun e => HAm.out e.symm
    exact ⟨by rw [cell_of_row _ m 0 _ _ _ h]; rfl, by rw [cell_of_row _ m 1 _ _ _ h]; rfl⟩
  subst hA
  subst hm
  subst hW1
  go_wp2_with (with_reducible show wpList Try.prog _ _ (Oper.mk (some 25) _ _ _ _ _ :: _) _ _; refine wpList_copy_kp rfl (.tmp 23) (.tmp 24) rfl w.heap.size ao NA NA N cap rfl rfl cur lc HA1.out Hn.out HP1.out Hf.out H1.out ?_; intro w2 HG2; obtain ⟨f0, f1⟩ := HRm.out w2 HG2.out.2)
  have HK2 : Hid (Keeps w w2 (fun _ => False)) := HK1.out.trans HG2.out.2 fun b hb e => by omega
  have HM2 : Hid (w2.heap[w.heap.size + 1]? = _) := HG2.out.2.row HM1.out (by omega)
  have HA2 : Hid (w2.heap[w.heap.size]? = some (.cells (byteRow (l ++ List.replicate 9 0)) 5 (0, 0))) := by
    have := HG2.out.1
    rw [HCur.out, HLc.out, HNA.out, ← HLn.out, splice_head] at this
    exact this
  obtain ⟨m, hm⟩ : ∃ m, m = w.heap.size + 1 := ⟨_, rfl⟩
  obtain ⟨A, hA⟩ : ∃ A, A = w.heap.size := ⟨_, rfl⟩
  rw [← hm] at HM2 ⊢
  rw [← hA] at HM2 HA2 ⊢
  have HAm : Hid (A ≠ m) := hidM (by omega)
  have HWA : Hid (w.heap.size ≤ A ∧ w.heap.size ≤ m) := hidM (by omega)
  clear HG2 HM1 HA1 HP1 HK1 Hn Hf H1 c0 hA hm hmk hadd HCur HLc HBy hcur hlc
  have HF2 : Hid (w2.heap[m]? = some (.cells #[.slice (some ⟨A, 0, none⟩) NA NA, .int .i64 N, .slice none 0 0, .pointer none, .pointer none, .pointer none, .slice none 0 0, .slice none 0 0, .slice none 0 0, .slice none 0 0, .slice none 0 0, .slice none 0 0, .slice none 0 0, .slice none 0 0, .slice none 0 0] 87 (0, 0)) ∧ w2.heap[A]? = some (.cells (byteRow (l ++ List.replicate 0 55 ++ List.replicate (9 - 0) 0)) 5 (0, 0)) ∧ Keeps w w2 (fun _ => False)) := ⟨HM2.out, by simpa using HA2.out, HK2.out⟩
  clear HM2 HA2 HK2 HRm f0 f1
  go_loopw [5] (fun p wr => ∃ i x : Nat, i ≤ 9 ∧ Hid (x = N + i) ∧ p = .int .i64 (x : Int) ∧ Hid ((wr.heap[m]? = some (.cells #[.slice (some ⟨A, 0, none⟩) NA NA, .int .i64 N, .slice none 0 0, .pointer none, .pointer none, .pointer none, .slice none 0 0, .slice none 0 0, .slice none 0 0, .slice none 0 0, .slice none 0 0, .slice none 0 0, .slice none 0 0, .slice none 0 0, .slice none 0 0] 87 (0, 0)) ∧ wr.heap[A]? = some (.cells (byteRow (l ++ List.replicate i 55 ++ List.replicate (9 - i) 0)) 5 (0, 0)) ∧ Keeps w wr (fun _ => False)))) (fun p _ => NA - (intOf p).toNat)
  case atStart => exact ⟨0, N, by omega, hidM rfl, rfl, HF2.out⟩
  case round =>
    obtain ⟨i, x, hi, Hx, rfl, HX⟩ := hrel
    clear HF2
    have f0 : wr.cell? ⟨m, 0, none⟩ = some (.slice (some ⟨A, 0, none⟩) NA NA) := by rw [cell_of_row _ m 0 _ _ _ HX.out.1]; rfl
    by_cases hi9 : i < 9
    · have hxI : (x : Int) < (NA : Int) := by have := HNA.out; have := Hx.out; omega
      have hxn : x < NA := by omega
      have HXl : Hid (x = l.length + i) := hidM (by rw [HLn.out]; exact Hx.out)
      have fA : wr.cell? ⟨A, x, none⟩ = some (.int .u8 0) := by
        rw [cell_of_row _ A x _ _ _ HX.out.2.1, HXl.out]
        simp [byteRow, List.getElem?_append, List.getElem?_replicate]
        omega
      have fz : wr.frozen? ⟨A, x, none⟩ = false := frozen_of_row wr A x _ _ HX.out.2.1
      have HNx : Hid (((wr.setCell ⟨A, x, none⟩ (.int .u8 55)).heap[m]? = some (.cells #[.slice (some ⟨A, 0, none⟩) NA NA, .int .i64 N, .slice none 0 0, .pointer none, .pointer none, .pointer none, .slice none 0 0, .slice none 0 0, .slice none 0 0, .slice none 0 0, .slice none 0 0, .slice none 0 0, .slice none 0 0, .slice none 0 0, .slice none 0 0] 87 (0, 0)) ∧ (wr.setCell ⟨A, x, none⟩ (.int .u8 55)).heap[A]? = some (.cells (byteRow (l ++ List.replicate (i + 1) 55 ++ List.replicate (9 - (i + 1)) 0)) 5 (0, 0)) ∧ Keeps w (wr.setCell ⟨A, x, none⟩ (.int .u8 55)) (fun _ => False))) := ⟨by rw [heap_setCell_other wr ⟨A, x, none⟩ m _ (fun e => HAm.out e.symm)]; exact HX.out.1, by rw [heap_setCell_same wr A x _ 5 _ HX.out.2.1, byteRow_set, HXl.out, fill_step l i hi9], HX.out.2.2.setCell (p := ⟨A, x, none⟩) (fun h => by have := HWA.out.1; simp at h; omega) _⟩
      go_wp2_with fail
      exact ⟨⟨i + 1, x + 1, by omega, hidM (by have := Hx.out; omega), by simp, HNx.out⟩, by simp [intOf]; omega⟩
    · have hi9' : i = 9 := by omega
      subst hi9'
      have hxn : ¬ ((x : Int) < (NA : Int)) := by have := HNA.out; have := Hx.out; omega
      obtain ⟨W6, rfl⟩ : ∃ W6, W6 = wr := ⟨_, rfl⟩
      have HF6 : Hid ((W6.heap[m]? = some (.cells #[.slice (some ⟨A, 0, none⟩) NA NA, .int .i64 N, .slice none 0 0, .pointer none, .pointer none, .pointer none, .slice none 0 0, .slice none 0 0, .slice none 0 0, .slice none 0 0, .slice none 0 0, .slice none 0 0, .slice none 0 0, .slice none 0 0, .slice none 0 0] 87 (0, 0)) ∧ W6.heap[A]? = some (.cells (byteRow (fifty l)) 5 (0, 0)) ∧ Keeps w W6 (fun _ => False))) := ⟨HX.out.1, by have := HX.out.2.1; simpa [fifty] using this, HX.out.2.2⟩
      clear HX hi hi9 Hx
      go_wp2_with fail
      have HFo := hidM HF6.out
      obtain ⟨V7, hV7⟩ : ∃ V, W6.alloc (.cells #[.slice none 0 0] 109) = V := ⟨_, rfl⟩
      obtain ⟨q1, hq1⟩ : ∃ q, q = W6.heap.size := ⟨_, rfl⟩
      have hkv : Keeps W6 V7 (fun _ => False) := by rw [← hV7]; exact (Keeps.refl _ _).alloc _
      have hmv := hkv.row HFo.out.1 id
      have hav := hkv.row HFo.out.2.1 id
      have hqv : V7.heap[q1]? = some (.cells #[.slice none 0 0] 109 (0, 0)) := by rw [← hV7, hq1]; exact heap_alloc_new W6 _
      have cq : V7.cell? ⟨m, 4, none⟩ = some (.pointer none) := by
        have h := cell_of_row V7 m 4 _ _ _ hmv
        exact h.trans rfl
      have fq : V7.frozen? ⟨m, 4, none⟩ = false := frozen_of_row V7 m 4 _ _ hmv
      have hml : m < W6.heap.size := (Array.getElem?_eq_some_iff.1 HFo.out.1).1
      have hal : A < W6.heap.size := (Array.getElem?_eq_some_iff.1 HFo.out.2.1).1
      have HNq1 : Hid (q1 ≠ m ∧ q1 ≠ A ∧ w.heap.size ≤ q1) := hidM (by have := HFo.out.2.2.size; omega)
      have HFn : Hid (((V7.setCell ⟨m, 4, none⟩ (.pointer (some ⟨q1, 0, none⟩))).drew.heap[m]? = some (.cells #[.slice (some ⟨A, 0, none⟩) NA NA, .int .i64 N, .slice none 0 0, .pointer none, .pointer (some ⟨q1, 0, none⟩), .pointer none, .slice none 0 0, .slice none 0 0, .slice none 0 0, .slice none 0 0, .slice none 0 0, .slice none 0 0, .slice none 0 0, .slice none 0 0, .slice none 0 0] 87 (0, 0)) ∧ (V7.setCell ⟨m, 4, none⟩ (.pointer (some ⟨q1, 0, none⟩))).drew.heap[A]? = some (.cells (byteRow (fifty l)) 5 (0, 0)) ∧ Keeps w (V7.setCell ⟨m, 4, none⟩ (.pointer (some ⟨q1, 0, none⟩))).drew (fun _ => False)) ∧ (V7.setCell ⟨m, 4, none⟩ (.pointer (some ⟨q1, 0, none⟩))).drew.heap[q1]? = some (.cells #[.slice none 0 0] 109 (0, 0))) := by
        refine ⟨⟨?_, ?_, ?_⟩, ?_⟩
        · exact (heap_setCell_same V7 m 4 _ 87 _ hmv).trans rfl
        · exact (heap_setCell_other V7 ⟨m, 4, none⟩ A _ (fun e => HAm.out e)).trans hav
        · exact (HFo.out.2.2.trans hkv fun _ _ e => e).setCell (p := ⟨m, 4, none⟩) (fun h => by have := HWA.out.2; simp at h; omega) _ |>.drew
        · exact (heap_setCell_other V7 ⟨m, 4, none⟩ q1 _ (fun e => HNq1.out.1 e)).trans hqv
      clear hkv hav hqv hmv hml hal
      refine wp_region_held_drew (S := fun _ => True) (by kernel_rfl) trivial (fun hHeld => ?_)
      refine wpAnyH_take (i := 0) (oi := { dst := some 45, op := Go.Op.move (Go.Operand.tmp 4), type := 24, pos := "law.go:358", after := #[], guard := none }) (v := ?v0r71) rfl (by kernel_rfl) (by kernel_rfl) (by kernel_rfl) (fun _ _ _ h => h) (Or.inl ⟨by rfl, ?y0r71⟩) (by assumption) ?r0r71
      case y0r71 => (intro w hSw; go_simp; (try with_reducible rfl))
      (try simp only [Act.put]); (try simp only [List.setIfInBounds_toArray]); (try simp only [List.set_cons_succ]); (try simp only [List.set_cons_zero])
      refine wpAnyH_take (i := 2) (oi := { dst := some 47, op := Go.Op.nilCheck (Go.Operand.tmp 45), type := 0, pos := "law.go:358", after := #[{ on := 0, ground := Go.Ground.data }], guard := none }) (v := ?v2r72) rfl (by kernel_rfl) (by kernel_rfl) (by kernel_rfl) (fun _ _ _ h => h) (Or.inl ⟨by rfl, ?y2r72⟩) (by assumption) ?r2r72
      case y2r72 => (intro w hSw; go_simp; (try with_reducible rfl))
      (try simp only [Act.put]); (try simp only [List.setIfInBounds_toArray]); (try simp only [List.set_cons_succ]); (try simp only [List.set_cons_zero])
      refine wpAnyH_take (i := 3) (oi := { dst := some 48, op := Go.Op.fieldAddr 87 (Go.Operand.tmp 47) 3, type := 0, pos := "law.go:358", after := #[{ on := 2, ground := Go.Ground.data }], guard := none }) (v := ?v3r73) rfl (by kernel_rfl) (by kernel_rfl) (by kernel_rfl) (fun _ _ _ h => h) (Or.inl ⟨by rfl, ?y3r73⟩) (by assumption) ?r3r73
      case y3r73 => (intro w hSw; go_simp; (try with_reducible rfl))
      (try simp only [Act.put]); (try simp only [List.setIfInBounds_toArray]); (try simp only [List.set_cons_succ]); (try simp only [List.set_cons_zero])
      refine wpAnyH_ready (rs := [1]) (by kernel_rfl) (by simp) ?_
      refine AllReadyH.cons (o := { dst := some 46, op := Go.Op.call { callee := Go.Callee.value (Go.Operand.func 13), args := #[], argTypes := #[] }, type := 34, pos := "law.go:358", after := #[], guard := none }) rfl (fun Kc hK => ?_) AllReadyH.nil
      go_simp
      go_at_call 13
      refine (newWatch_any _).mono ?_
      rintro e w9 ⟨rfl, rfl⟩
      go_wp2_with fail
      refine hK.out _ _ trivial (fun hHeld => ?_)
      clear hK Kc
      (try simp only [Act.put]); (try simp only [List.setIfInBounds_toArray]); (try simp only [List.set_cons_succ]); (try simp only [List.set_cons_zero])
      refine wpAnyH_take (i := 4) (oi := { dst := some 49, op := Go.Op.indexAddr 79 (Go.Operand.tmp 48) (Go.Operand.const (Go.Value.int Go.IntKind.i64 1)), type := 0, pos := "law.go:358", after := #[{ on := 3, ground := Go.Ground.data }, { on := 0, ground := Go.Ground.phase }, { on := 1, ground := Go.Ground.phase }], guard := none }) (v := ?v4r74) rfl (by kernel_rfl) (by kernel_rfl) (by kernel_rfl) (fun _ _ _ h => h) (Or.inl ⟨by rfl, ?y4r74⟩) (by assumption) ?r4r74
      case y4r74 => (intro w hSw; go_simp; (try with_reducible rfl))
      (try simp only [Act.put]); (try simp only [List.setIfInBounds_toArray]); (try simp only [List.set_cons_succ]); (try simp only [List.set_cons_zero])
      refine wpAnyH_ready (rs := [5]) (by kernel_rfl) (by simp) ?_
      refine AllReadyH.cons (o := { dst := none, op := Go.Op.store 34 (Go.Operand.tmp 49) (Go.Operand.tmp 46), type := 0, pos := "law.go:358", after := #[{ on := 4, ground := Go.Ground.data }, { on := 1, ground := Go.Ground.data }, { on := 1, ground := Go.Ground.chain }, { on := 0, ground := Go.Ground.phase }, { on := 1, ground := Go.Ground.phase }], guard := none }) rfl (fun Kc hK => ?_) AllReadyH.nil
      go_simp
      refine hK.out _ _ trivial (fun hHeld => ?_)
      clear hK Kc
      (try simp only [Act.put]); (try simp only [List.setIfInBounds_toArray]); (try simp only [List.set_cons_succ]); (try simp only [List.set_cons_zero])
      refine wpAnyH_done (by kernel_rfl) ?_ _
      (try rw [hV7]); (try rw [← hq1])
      have HFn' := HFn.out
      generalize (V7.setCell ⟨m, 4, none⟩ (.pointer (some ⟨q1, 0, none⟩))).drew = W7 at HFn' ⊢
      have HF7 := hidM HFn'.1
      have HQq1 := hidM HFn'.2
      skip
      clear HFn HFn' cq fq hV7 hq1 HFo hHeld HF6
      go_wp2_with fail
      have HFo := hidM HF7.out
      obtain ⟨V8, hV8⟩ : ∃ V, W7.alloc (.cells #[.slice none 0 0] 109) = V := ⟨_, rfl⟩
      obtain ⟨q2, hq2⟩ : ∃ q, q = W7.heap.size := ⟨_, rfl⟩
      have hkv : Keeps W7 V8 (fun _ => False) := by rw [← hV8]; exact (Keeps.refl _ _).alloc _
      have hmv := hkv.row HFo.out.1 id
      have hav := hkv.row HFo.out.2.1 id
      have hqv : V8.heap[q2]? = some (.cells #[.slice none 0 0] 109 (0, 0)) := by rw [← hV8, hq2]; exact heap_alloc_new W7 _
      have cq : V8.cell? ⟨m, 5, none⟩ = some (.pointer none) := by
        have h := cell_of_row V8 m 5 _ _ _ hmv
        exact h.trans rfl
      have fq : V8.frozen? ⟨m, 5, none⟩ = false := frozen_of_row V8 m 5 _ _ hmv
      have hml : m < W7.heap.size := (Array.getElem?_eq_some_iff.1 HFo.out.1).1
      have hal : A < W7.heap.size := (Array.getElem?_eq_some_iff.1 HFo.out.2.1).1
      have HNq2 : Hid (q2 ≠ m ∧ q2 ≠ A ∧ w.heap.size ≤ q2 ∧ q2 ≠ q1) := hidM (by have := HFo.out.2.2.size; have hql := (Array.getElem?_eq_some_iff.1 HQq1.out).1; omega)
      have HFn : Hid (((V8.setCell ⟨m, 5, none⟩ (.pointer (some ⟨q2, 0, none⟩))).drew.heap[m]? = some (.cells #[.slice (some ⟨A, 0, none⟩) NA NA, .int .i64 N, .slice none 0 0, .pointer none, .pointer (some ⟨q1, 0, none⟩), .pointer (some ⟨q2, 0, none⟩), .slice none 0 0, .slice none 0 0, .slice none 0 0, .slice none 0 0, .slice none 0 0, .slice none 0 0, .slice none 0 0, .slice none 0 0, .slice none 0 0] 87 (0, 0)) ∧ (V8.setCell ⟨m, 5, none⟩ (.pointer (some ⟨q2, 0, none⟩))).drew.heap[A]? = some (.cells (byteRow (fifty l)) 5 (0, 0)) ∧ Keeps w (V8.setCell ⟨m, 5, none⟩ (.pointer (some ⟨q2, 0, none⟩))).drew (fun _ => False)) ∧ (V8.setCell ⟨m, 5, none⟩ (.pointer (some ⟨q2, 0, none⟩))).drew.heap[q2]? = some (.cells #[.slice none 0 0] 109 (0, 0)) ∧ (V8.setCell ⟨m, 5, none⟩ (.pointer (some ⟨q2, 0, none⟩))).drew.heap[q1]? = some (.cells #[.slice none 0 0] 109 (0, 0))) := by
        refine ⟨⟨?_, ?_, ?_⟩, ?_, ?_⟩
        · exact (heap_setCell_same V8 m 5 _ 87 _ hmv).trans rfl
        · exact (heap_setCell_other V8 ⟨m, 5, none⟩ A _ (fun e => HAm.out e)).trans hav
        · exact (HFo.out.2.2.trans hkv fun _ _ e => e).setCell (p := ⟨m, 5, none⟩) (fun h => by have := HWA.out.2; simp at h; omega) _ |>.drew
        · exact (heap_setCell_other V8 ⟨m, 5, none⟩ q2 _ (fun e => HNq2.out.1 e)).trans hqv
        · exact (heap_setCell_other V8 ⟨m, 5, none⟩ q1 _ (fun e => HNq1.out.1 e)).trans (hkv.row HQq1.out id)
      clear hkv hav hqv hmv hml hal
      refine wp_region_held_drew (S := fun _ => True) (by kernel_rfl) trivial (fun hHeld => ?_)
      refine wpAnyH_take (i := 0) (oi := { dst := some 50, op := Go.Op.move (Go.Operand.tmp 4), type := 24, pos := "law.go:359", after := #[], guard := none }) (v := ?v0r81) rfl (by kernel_rfl) (by kernel_rfl) (by kernel_rfl) (fun _ _ _ h => h) (Or.inl ⟨by rfl, ?y0r81⟩) (by assumption) ?r0r81
      case y0r81 => (intro w hSw; go_simp; (try with_reducible rfl))
      (try simp only [Act.put]); (try simp only [List.setIfInBounds_toArray]); (try simp only [List.set_cons_succ]); (try simp only [List.set_cons_zero])
      refine wpAnyH_take (i := 2) (oi := { dst := some 52, op := Go.Op.nilCheck (Go.Operand.tmp 50), type := 0, pos := "law.go:359", after := #[{ on := 0, ground := Go.Ground.data }], guard := none }) (v := ?v2r82) rfl (by kernel_rfl) (by kernel_rfl) (by kernel_rfl) (fun _ _ _ h => h) (Or.inl ⟨by rfl, ?y2r82⟩) (by assumption) ?r2r82
      case y2r82 => (intro w hSw; go_simp; (try with_reducible rfl))
      (try simp only [Act.put]); (try simp only [List.setIfInBounds_toArray]); (try simp only [List.set_cons_succ]); (try simp only [List.set_cons_zero])
      refine wpAnyH_take (i := 3) (oi := { dst := some 53, op := Go.Op.fieldAddr 87 (Go.Operand.tmp 52) 3, type := 0, pos := "law.go:359", after := #[{ on := 2, ground := Go.Ground.data }], guard := none }) (v := ?v3r83) rfl (by kernel_rfl) (by kernel_rfl) (by kernel_rfl) (fun _ _ _ h => h) (Or.inl ⟨by rfl, ?y3r83⟩) (by assumption) ?r3r83
      case y3r83 => (intro w hSw; go_simp; (try with_reducible rfl))
      (try simp only [Act.put]); (try simp only [List.setIfInBounds_toArray]); (try simp only [List.set_cons_succ]); (try simp only [List.set_cons_zero])
      refine wpAnyH_ready (rs := [1]) (by kernel_rfl) (by simp) ?_
      refine AllReadyH.cons (o := { dst := some 51, op := Go.Op.call { callee := Go.Callee.value (Go.Operand.func 13), args := #[], argTypes := #[] }, type := 34, pos := "law.go:359", after := #[], guard := none }) rfl (fun Kc hK => ?_) AllReadyH.nil
      go_simp
      go_at_call 13
      refine (newWatch_any _).mono ?_
      rintro e w9 ⟨rfl, rfl⟩
      go_wp2_with fail
      refine hK.out _ _ trivial (fun hHeld => ?_)
      clear hK Kc
      (try simp only [Act.put]); (try simp only [List.setIfInBounds_toArray]); (try simp only [List.set_cons_succ]); (try simp only [List.set_cons_zero])
      refine wpAnyH_take (i := 4) (oi := { dst := some 54, op := Go.Op.indexAddr 79 (Go.Operand.tmp 53) (Go.Operand.const (Go.Value.int Go.IntKind.i64 2)), type := 0, pos := "law.go:359", after := #[{ on := 3, ground := Go.Ground.data }, { on := 0, ground := Go.Ground.phase }, { on := 1, ground := Go.Ground.phase }], guard := none }) (v := ?v4r84) rfl (by kernel_rfl) (by kernel_rfl) (by kernel_rfl) (fun _ _ _ h => h) (Or.inl ⟨by rfl, ?y4r84⟩) (by assumption) ?r4r84
      case y4r84 => (intro w hSw; go_simp; (try with_reducible rfl))
      (try simp only [Act.put]); (try simp only [List.setIfInBounds_toArray]); (try simp only [List.set_cons_succ]); (try simp only [List.set_cons_zero])
      refine wpAnyH_ready (rs := [5]) (by kernel_rfl) (by simp) ?_
      refine AllReadyH.cons (o := { dst := none, op := Go.Op.store 34 (Go.Operand.tmp 54) (Go.Operand.tmp 51), type := 0, pos := "law.go:359", after := #[{ on := 4, ground := Go.Ground.data }, { on := 1, ground := Go.Ground.data }, { on := 1, ground := Go.Ground.chain }, { on := 0, ground := Go.Ground.phase }, { on := 1, ground := Go.Ground.phase }], guard := none }) rfl (fun Kc hK => ?_) AllReadyH.nil
      go_simp
      refine hK.out _ _ trivial (fun hHeld => ?_)
      clear hK Kc
      (try simp only [Act.put]); (try simp only [List.setIfInBounds_toArray]); (try simp only [List.set_cons_succ]); (try simp only [List.set_cons_zero])
      refine wpAnyH_done (by kernel_rfl) ?_ _
      (try rw [hV8]); (try rw [← hq2])
      have HFn' := HFn.out
      generalize (V8.setCell ⟨m, 5, none⟩ (.pointer (some ⟨q2, 0, none⟩))).drew = W8 at HFn' ⊢
      have HF8 := hidM HFn'.1
      have HQq2 := hidM HFn'.2.1
      replace HQq1 := hidM HFn'.2.2
      clear HFn HFn' cq fq hV8 hq2 HFo hHeld HF7
      have HIv : Hid (Inv ⟨m, A, N, q1, q2⟩ W8 (g00 l)) := Inv.begin HAm.out ⟨HNq1.out.1, HNq1.out.2.1⟩ ⟨HNq2.out.1, HNq2.out.2.1, HNq2.out.2.2.2⟩ (by have h := HF8.out.1; rw [HNA.out] at h; exact h) HF8.out.2.1 HQq1.out HQq2.out
      have HKw : Hid (Keeps w W8 (fun _ => False)) := HF8.out.2.2
      have HNw : Hid (∀ i b, ft ⟨m, A, N, q1, q2⟩ (g00 l) i b → w.heap.size ≤ b) := fun i b hb => by
        have h1 := HWA.out
        have h2 := HNq1.out
        have h3 := HNq2.out
        rcases ft00 hb with ⟨_, e⟩ | ⟨_, e⟩ | ⟨_, e⟩ | ⟨_, e⟩ <;> simp only at e <;> omega
      obtain ⟨c, hc⟩ : ∃ c : Cn, c = ⟨m, A, N, q1, q2⟩ := ⟨_, rfl⟩
      rw [← hc] at HIv HNw
      clear HF8 HQq1 HQq2 HNq1 HNq2 HAm HWA
      obtain rfl : c.m = m := by rw [hc]
      obtain rfl : c.A = A := by rw [hc]
      obtain rfl : c.N = N := by rw [hc]
      obtain rfl : c.q1 = q1 := by rw [hc]
      obtain rfl : c.q2 = q2 := by rw [hc]
      clear hc
      have c4 : W8.cell? ⟨c.m, 4, none⟩ = some (.pointer (some ⟨c.q1, 0, none⟩)) := HIv.out.cell rfl
      have c5 : W8.cell? ⟨c.m, 5, none⟩ = some (.pointer (some ⟨c.q2, 0, none⟩)) := HIv.out.cell rfl
      go_wp2_with fail
      refine' share2 (fun (X Y : Nat) (w' : World) => w'.heap[X]? = some (.cells #[.slice (some ⟨Y, 0, none⟩) 1 1, .int .i64 0, .pointer (some ⟨c.q2, 0, none⟩)] 37 (0, 0)) ∧ w'.heap[Y]? = some (.cells #[.int .u8 9] 5 (0, 0)) ∧ Keeps W8 w' (fun _ => False) ∧ W8.heap.size ≤ X ∧ W8.heap.size ≤ Y) ?_ ?_
      rotate_left 1
      · intro key
        obtain ⟨U0, hU0⟩ : ∃ U0, W8.drew = U0 := ⟨_, rfl⟩
        have HKU0 : Hid (Keeps W8 U0 (fun _ => False)) := by rw [← hU0]; exact (Keeps.refl _ _).drew
        refine wp_region_held_drew (S := fun w' => w'.cell? ⟨c.m, 5, none⟩ = some (.pointer (some ⟨c.q2, 0, none⟩))) (by kernel_rfl) (by rw [hU0]; exact HKU0.out.cell' c5 id) (fun hHeld => ?_)
        rw [hU0] at hHeld ⊢
        clear hU0
        refine wpAnyH_take (i := 2) (oi := { dst := some 71, op := Go.Op.move (Go.Operand.tmp 4), type := 24, pos := "law.go:363", after := #[], guard := none }) (v := ?v2p1) rfl (by kernel_rfl) (by kernel_rfl) (by kernel_rfl) (fun _ _ _ h => h) (Or.inl ⟨by rfl, ?y2p1⟩) (by assumption) ?r2p1
        case y2p1 => (intro w hSw; go_simp; (try with_reducible rfl))
        (try simp only [Act.put]); (try simp only [List.setIfInBounds_toArray]); (try simp only [List.set_cons_succ]); (try simp only [List.set_cons_zero])
        refine wpAnyH_take (i := 3) (oi := { dst := some 72, op := Go.Op.nilCheck (Go.Operand.tmp 71), type := 0, pos := "law.go:363", after := #[{ on := 2, ground := Go.Ground.data }], guard := none }) (v := ?v3p2) rfl (by kernel_rfl) (by kernel_rfl) (by kernel_rfl) (fun _ _ _ h => h) (Or.inl ⟨by rfl, ?y3p2⟩) (by assumption) ?r3p2
        case y3p2 => (intro w hSw; go_simp; (try with_reducible rfl))
        (try simp only [Act.put]); (try simp only [List.setIfInBounds_toArray]); (try simp only [List.set_cons_succ]); (try simp only [List.set_cons_zero])
        refine wpAnyH_take (i := 4) (oi := { dst := some 73, op := Go.Op.fieldAddr 87 (Go.Operand.tmp 72) 3, type := 0, pos := "law.go:363", after := #[{ on := 3, ground := Go.Ground.data }], guard := none }) (v := ?v4p3) rfl (by kernel_rfl) (by kernel_rfl) (by kernel_rfl) (fun _ _ _ h => h) (Or.inl ⟨by rfl, ?y4p3⟩) (by assumption) ?r4p3
        case y4p3 => (intro w hSw; go_simp; (try with_reducible rfl))
        (try simp only [Act.put]); (try simp only [List.setIfInBounds_toArray]); (try simp only [List.set_cons_succ]); (try simp only [List.set_cons_zero])
        refine wpAnyH_take (i := 5) (oi := { dst := some 74, op := Go.Op.indexAddr 79 (Go.Operand.tmp 73) (Go.Operand.const (Go.Value.int Go.IntKind.i64 2)), type := 0, pos := "law.go:363", after := #[{ on := 4, ground := Go.Ground.data }], guard := none }) (v := ?v5p4) rfl (by kernel_rfl) (by kernel_rfl) (by kernel_rfl) (fun _ _ _ h => h) (Or.inl ⟨by rfl, ?y5p4⟩) (by assumption) ?r5p4
        case y5p4 => (intro w hSw; go_simp; (try with_reducible rfl))
        (try simp only [Act.put]); (try simp only [List.setIfInBounds_toArray]); (try simp only [List.set_cons_succ]); (try simp only [List.set_cons_zero])
        refine wpAnyH_take (i := 6) (oi := { dst := some 75, op := Go.Op.load 34 (Go.Operand.tmp 74), type := 34, pos := "law.go:363", after := #[{ on := 5, ground := Go.Ground.data }], guard := none }) (v := ?v6p5) rfl (by kernel_rfl) (by kernel_rfl) (by kernel_rfl) (fun _ _ _ h => h) (Or.inl ⟨by rfl, ?y6p5⟩) (by assumption) ?r6p5
        case y6p5 => (intro w hSw; go_simp; (try with_reducible rfl))
        (try simp only [Act.put]); (try simp only [List.setIfInBounds_toArray]); (try simp only [List.set_cons_succ]); (try simp only [List.set_cons_zero])
        refine wpAnyH_ready (rs := [0, 8]) (by kernel_rfl) (by simp) ?_
        refine AllReadyH.cons (o := { dst := some 69, op := Go.Op.buildSlice 22 1 #[(0, Go.Operand.const (Go.Value.int Go.IntKind.u8 9))], type := 22, pos := "law.go:363", after := #[], guard := none }) rfl (fun Kc hK => ?_) (AllReadyH.cons (o := { dst := some 6, op := Go.Op.alloc 37, type := 0, pos := "law.go:363", after := #[], guard := none }) rfl (fun Kc hK => ?_) AllReadyH.nil)
        · obtain ⟨Vpa1, hVpa1⟩ : ∃ V, U0.alloc (.cells #[.int .u8 9] 5) = V := ⟨_, rfl⟩
          obtain ⟨Y, hY⟩ : ∃ X, U0.heap.size = X := ⟨_, rfl⟩
          have hkVpa1 : Keeps U0 Vpa1 (fun _ => False) := by rw [← hVpa1]; exact (Keeps.refl _ _).alloc _
          have HKVpa1 : Hid (Keeps W8 Vpa1 (fun _ => False)) := HKU0.out.trans hkVpa1 fun _ _ e => e
          have HRYVpa1 : Hid (Vpa1.heap[Y]? = some (.cells #[.int .u8 9] 5 (0, 0))) := by rw [← hVpa1, ← hY]; exact heap_alloc_new _ _
          have HZY : Hid (W8.heap.size ≤ Y) := by rw [← hY]; exact HKU0.out.size
          clear hkVpa1
          go_simp
          refine hK.out _ _ (HKVpa1.out.cell' c5 id) (fun hHeld => ?_)
          clear hK Kc
          (try simp only [Act.put]); (try simp only [List.setIfInBounds_toArray]); (try simp only [List.set_cons_succ]); (try simp only [List.set_cons_zero])
          clear hVpa1 hY
          refine wpAnyH_ready (rs := [1, 8]) (by kernel_rfl) (by simp) ?_
          refine AllReadyH.cons (o := { dst := some 70, op := Go.Op.call { callee := Go.Callee.value (Go.Operand.func 14), args := #[Go.Operand.tmp 69], argTypes := #[22] }, type := 37, pos := "law.go:363", after := #[{ on := 0, ground := Go.Ground.data }], guard := none }) rfl (fun Kc hK => ?_) (AllReadyH.cons (o := { dst := some 6, op := Go.Op.alloc 37, type := 0, pos := "law.go:363", after := #[], guard := none }) rfl (fun Kc hK => ?_) AllReadyH.nil)
          · go_simp
            go_at_call 14
            refine Calls.mono (of_any (some ⟨Y, 0, none⟩) 1 1 _) ?_
            rintro e Vpaa2 ⟨rfl, hkVpaa2⟩
            have HRYVpaa2 : Hid (Vpaa2.heap[Y]? = some (.cells #[.int .u8 9] 5 (0, 0))) := hkVpaa2.row HRYVpa1.out id
            have HKVpaa2 : Hid (Keeps W8 Vpaa2 (fun _ => False)) := HKVpa1.out.trans hkVpaa2 fun _ _ e => e
            clear hkVpaa2
            unfold viewV
            go_wp2_with fail
            refine hK.out _ _ (HKVpaa2.out.cell' c5 id) (fun hHeld => ?_)
            clear hK Kc
            (try simp only [Act.put]); (try simp only [List.setIfInBounds_toArray]); (try simp only [List.set_cons_succ]); (try simp only [List.set_cons_zero])
            refine wpAnyH_ready (rs := [7, 8]) (by kernel_rfl) (by simp) ?_
            refine AllReadyH.cons (o := { dst := some 76, op := Go.Op.call { callee := Go.Callee.value (Go.Operand.func 15), args := #[Go.Operand.tmp 70, Go.Operand.tmp 75], argTypes := #[37, 34] }, type := 37, pos := "law.go:363", after := #[{ on := 1, ground := Go.Ground.data }, { on := 6, ground := Go.Ground.data }, { on := 1, ground := Go.Ground.chain }], guard := none }) rfl (fun Kc hK => ?_) (AllReadyH.cons (o := { dst := some 6, op := Go.Op.alloc 37, type := 0, pos := "law.go:363", after := #[], guard := none }) rfl (fun Kc hK => ?_) AllReadyH.nil)
            · go_simp
              go_at_call 15
              refine Calls.mono (watched_any (some ⟨Y, 0, none⟩) 1 1 0 none (some c.q2) _) ?_
              rintro e Vpaaa3 ⟨rfl, hkVpaaa3⟩
              have HRYVpaaa3 : Hid (Vpaaa3.heap[Y]? = some (.cells #[.int .u8 9] 5 (0, 0))) := hkVpaaa3.row HRYVpaa2.out id
              have HKVpaaa3 : Hid (Keeps W8 Vpaaa3 (fun _ => False)) := HKVpaa2.out.trans hkVpaaa3 fun _ _ e => e
              clear hkVpaaa3
              unfold viewV
              go_wp2_with fail
              refine hK.out _ _ (HKVpaaa3.out.cell' c5 id) (fun hHeld => ?_)
              clear hK Kc
              (try simp only [Act.put]); (try simp only [List.setIfInBounds_toArray]); (try simp only [List.set_cons_succ]); (try simp only [List.set_cons_zero])
              obtain ⟨Vpaaa4, hVpaaa4⟩ : ∃ V, Vpaaa3.alloc (.cells #[.slice none 0 0, .int .i64 0, .pointer none] 37) = V := ⟨_, rfl⟩
              obtain ⟨X, hX⟩ : ∃ X, Vpaaa3.heap.size = X := ⟨_, rfl⟩
              have hkVpaaa4 : Keeps Vpaaa3 Vpaaa4 (fun _ => False) := by rw [← hVpaaa4]; exact (Keeps.refl _ _).alloc _
              have HRYVpaaa4 : Hid (Vpaaa4.heap[Y]? = some (.cells #[.int .u8 9] 5 (0, 0))) := hkVpaaa4.row HRYVpaaa3.out id
              have HKVpaaa4 : Hid (Keeps W8 Vpaaa4 (fun _ => False)) := HKVpaaa3.out.trans hkVpaaa4 fun _ _ e => e
              have HRXVpaaa4 : Hid (Vpaaa4.heap[X]? = some (.cells #[.slice none 0 0, .int .i64 0, .pointer none] 37 (0, 0))) := by rw [← hVpaaa4, ← hX]; exact heap_alloc_new _ _
              have HZX : Hid (W8.heap.size ≤ X) := by rw [← hX]; exact HKVpaaa3.out.size
              clear hkVpaaa4
              refine wpAnyH_ready (rs := [8]) (by kernel_rfl) (by simp) ?_
              refine AllReadyH.cons (o := { dst := some 6, op := Go.Op.alloc 37, type := 0, pos := "law.go:363", after := #[], guard := none }) rfl (fun Kc hK => ?_) AllReadyH.nil
              go_simp
              refine hK.out _ _ (HKVpaaa4.out.cell' c5 id) (fun hHeld => ?_)
              clear hK Kc
              (try simp only [Act.put]); (try simp only [List.setIfInBounds_toArray]); (try simp only [List.set_cons_succ]); (try simp only [List.set_cons_zero])
              clear hVpaaa4 hX
              obtain ⟨Vpaaa5, hVpaaa5⟩ : ∃ V, (((Vpaaa4.setCell ⟨X, 0, none⟩ (.slice (some ⟨Y, 0, none⟩) 1 1)).setCell ⟨X, 1, none⟩ (.int .i64 0)).setCell ⟨X, 2, none⟩ (.pointer (some ⟨c.q2, 0, none⟩))) = V := ⟨_, rfl⟩
              have cX0 := cell_of_row Vpaaa4 X 0 _ _ _ HRXVpaaa4.out
              have fX0 : Vpaaa4.frozen? ⟨X, 0, none⟩ = false := frozen_of_row Vpaaa4 X 0 _ _ HRXVpaaa4.out
              simp at cX0
              have cX1 := cell_of_row Vpaaa4 X 1 _ _ _ HRXVpaaa4.out
              have fX1 : Vpaaa4.frozen? ⟨X, 1, none⟩ = false := frozen_of_row Vpaaa4 X 1 _ _ HRXVpaaa4.out
              simp at cX1
              have cX2 := cell_of_row Vpaaa4 X 2 _ _ _ HRXVpaaa4.out
              have fX2 : Vpaaa4.frozen? ⟨X, 2, none⟩ = false := frozen_of_row Vpaaa4 X 2 _ _ HRXVpaaa4.out
              simp at cX2
              have hkVpaaa5 : Keeps Vpaaa4 Vpaaa5 (fun b => b = X) := by rw [← hVpaaa5]; exact ((((Keeps.refl Vpaaa4 (fun b => b = X)).setCell (p := ⟨X, 0, none⟩) (fun _ => rfl) _).setCell (p := ⟨X, 1, none⟩) (fun _ => rfl) _).setCell (p := ⟨X, 2, none⟩) (fun _ => rfl) _)
              have HRXVpaaa5 : Hid (Vpaaa5.heap[X]? = some (.cells #[.slice (some ⟨Y, 0, none⟩) 1 1, .int .i64 0, .pointer (some ⟨c.q2, 0, none⟩)] 37 (0, 0))) := by rw [← hVpaaa5]; exact (OwnRow.set (OwnRow.set (OwnRow.set (show OwnRow Vpaaa4 X 37 _ from HRXVpaaa4.out) 0 _) 1 _) 2 _)
              have hneY : Y ≠ X := fun e => by have h1 := HRYVpaaa4.out; rw [e, HRXVpaaa4.out] at h1; simp at h1
              have HRYVpaaa5 : Hid (Vpaaa5.heap[Y]? = some (.cells #[.int .u8 9] 5 (0, 0))) := hkVpaaa5.row HRYVpaaa4.out hneY
              clear hneY
              have HKVpaaa5 : Hid (Keeps W8 Vpaaa5 (fun _ => False)) := HKVpaaa4.out.trans hkVpaaa5 fun b hb e => by have := HZX.out; omega
              clear hkVpaaa5
              refine wpAnyH_ready (rs := [9]) (by kernel_rfl) (by simp) ?_
              refine AllReadyH.cons (o := { dst := none, op := Go.Op.store 37 (Go.Operand.tmp 6) (Go.Operand.tmp 76), type := 0, pos := "law.go:363", after := #[{ on := 8, ground := Go.Ground.data }, { on := 7, ground := Go.Ground.data }, { on := 7, ground := Go.Ground.chain }, { on := 0, ground := Go.Ground.phase }, { on := 1, ground := Go.Ground.phase }, { on := 2, ground := Go.Ground.phase }, { on := 3, ground := Go.Ground.phase }, { on := 4, ground := Go.Ground.phase }, { on := 5, ground := Go.Ground.phase }, { on := 6, ground := Go.Ground.phase }, { on := 7, ground := Go.Ground.phase }, { on := 8, ground := Go.Ground.phase }], guard := none }) rfl (fun Kc hK => ?_) AllReadyH.nil
              go_simp
              refine hK.out _ _ (HKVpaaa5.out.cell' c5 id) (fun hHeld => ?_)
              clear hK Kc
              (try simp only [Act.put]); (try simp only [List.setIfInBounds_toArray]); (try simp only [List.set_cons_succ]); (try simp only [List.set_cons_zero])
              clear cX0 fX0 cX1 fX1 cX2 fX2 hVpaaa5
              refine wpAnyH_done (by kernel_rfl) ?_ _
              clear hHeld
              exact key X Y Vpaaa5 ⟨HRXVpaaa5.out, HRYVpaaa5.out, HKVpaaa5.out, HZX.out, HZY.out⟩
            · obtain ⟨Vpaab3, hVpaab3⟩ : ∃ V, Vpaa2.alloc (.cells #[.slice none 0 0, .int .i64 0, .pointer none] 37) = V := ⟨_, rfl⟩
              obtain ⟨X, hX⟩ : ∃ X, Vpaa2.heap.size = X := ⟨_, rfl⟩
              have hkVpaab3 : Keeps Vpaa2 Vpaab3 (fun _ => False) := by rw [← hVpaab3]; exact (Keeps.refl _ _).alloc _
              have HRYVpaab3 : Hid (Vpaab3.heap[Y]? = some (.cells #[.int .u8 9] 5 (0, 0))) := hkVpaab3.row HRYVpaa2.out id
              have HKVpaab3 : Hid (Keeps W8 Vpaab3 (fun _ => False)) := HKVpaa2.out.trans hkVpaab3 fun _ _ e => e
              have HRXVpaab3 : Hid (Vpaab3.heap[X]? = some (.cells #[.slice none 0 0, .int .i64 0, .pointer none] 37 (0, 0))) := by rw [← hVpaab3, ← hX]; exact heap_alloc_new _ _
              have HZX : Hid (W8.heap.size ≤ X) := by rw [← hX]; exact HKVpaa2.out.size
              clear hkVpaab3
              go_simp
              refine hK.out _ _ (HKVpaab3.out.cell' c5 id) (fun hHeld => ?_)
              clear hK Kc
              (try simp only [Act.put]); (try simp only [List.setIfInBounds_toArray]); (try simp only [List.set_cons_succ]); (try simp only [List.set_cons_zero])
              clear hVpaab3 hX
              refine wpAnyH_ready (rs := [7]) (by kernel_rfl) (by simp) ?_
              refine AllReadyH.cons (o := { dst := some 76, op := Go.Op.call { callee := Go.Callee.value (Go.Operand.func 15), args := #[Go.Operand.tmp 70, Go.Operand.tmp 75], argTypes := #[37, 34] }, type := 37, pos := "law.go:363", after := #[{ on := 1, ground := Go.Ground.data }, { on := 6, ground := Go.Ground.data }, { on := 1, ground := Go.Ground.chain }], guard := none }) rfl (fun Kc hK => ?_) AllReadyH.nil
              go_simp
              go_at_call 15
              refine Calls.mono (watched_any (some ⟨Y, 0, none⟩) 1 1 0 none (some c.q2) _) ?_
              rintro e Vpaab4 ⟨rfl, hkVpaab4⟩
              have HRYVpaab4 : Hid (Vpaab4.heap[Y]? = some (.cells #[.int .u8 9] 5 (0, 0))) := hkVpaab4.row HRYVpaab3.out id
              have HRXVpaab4 : Hid (Vpaab4.heap[X]? = some (.cells #[.slice none 0 0, .int .i64 0, .pointer none] 37 (0, 0))) := hkVpaab4.row HRXVpaab3.out id
              have HKVpaab4 : Hid (Keeps W8 Vpaab4 (fun _ => False)) := HKVpaab3.out.trans hkVpaab4 fun _ _ e => e
              clear hkVpaab4
              unfold viewV
              go_wp2_with fail
              refine hK.out _ _ (HKVpaab4.out.cell' c5 id) (fun hHeld => ?_)
              clear hK Kc
              (try simp only [Act.put]); (try simp only [List.setIfInBounds_toArray]); (try simp only [List.set_cons_succ]); (try simp only [List.set_cons_zero])
              obtain ⟨Vpaab5, hVpaab5⟩ : ∃ V, (((Vpaab4.setCell ⟨X, 0, none⟩ (.slice (some ⟨Y, 0, none⟩) 1 1)).setCell ⟨X, 1, none⟩ (.int .i64 0)).setCell ⟨X, 2, none⟩ (.pointer (some ⟨c.q2, 0, none⟩))) = V := ⟨_, rfl⟩
              have cX0 := cell_of_row Vpaab4 X 0 _ _ _ HRXVpaab4.out
              have fX0 : Vpaab4.frozen? ⟨X, 0, none⟩ = false := frozen_of_row Vpaab4 X 0 _ _ HRXVpaab4.out
              simp at cX0
              have cX1 := cell_of_row Vpaab4 X 1 _ _ _ HRXVpaab4.out
              have fX1 : Vpaab4.frozen? ⟨X, 1, none⟩ = false := frozen_of_row Vpaab4 X 1 _ _ HRXVpaab4.out
              simp at cX1
              have cX2 := cell_of_row Vpaab4 X 2 _ _ _ HRXVpaab4.out
              have fX2 : Vpaab4.frozen? ⟨X, 2, none⟩ = false := frozen_of_row Vpaab4 X 2 _ _ HRXVpaab4.out
              simp at cX2
              have hkVpaab5 : Keeps Vpaab4 Vpaab5 (fun b => b = X) := by rw [← hVpaab5]; exact ((((Keeps.refl Vpaab4 (fun b => b = X)).setCell (p := ⟨X, 0, none⟩) (fun _ => rfl) _).setCell (p := ⟨X, 1, none⟩) (fun _ => rfl) _).setCell (p := ⟨X, 2, none⟩) (fun _ => rfl) _)
              have HRXVpaab5 : Hid (Vpaab5.heap[X]? = some (.cells #[.slice (some ⟨Y, 0, none⟩) 1 1, .int .i64 0, .pointer (some ⟨c.q2, 0, none⟩)] 37 (0, 0))) := by rw [← hVpaab5]; exact (OwnRow.set (OwnRow.set (OwnRow.set (show OwnRow Vpaab4 X 37 _ from HRXVpaab4.out) 0 _) 1 _) 2 _)
              have hneY : Y ≠ X := fun e => by have h1 := HRYVpaab4.out; rw [e, HRXVpaab4.out] at h1; simp at h1
              have HRYVpaab5 : Hid (Vpaab5.heap[Y]? = some (.cells #[.int .u8 9] 5 (0, 0))) := hkVpaab5.row HRYVpaab4.out hneY
              clear hneY
              have HKVpaab5 : Hid (Keeps W8 Vpaab5 (fun _ => False)) := HKVpaab4.out.trans hkVpaab5 fun b hb e => by have := HZX.out; omega
              clear hkVpaab5
              refine wpAnyH_ready (rs := [9]) (by kernel_rfl) (by simp) ?_
              refine AllReadyH.cons (o := { dst := none, op := Go.Op.store 37 (Go.Operand.tmp 6) (Go.Operand.tmp 76), type := 0, pos := "law.go:363", after := #[{ on := 8, ground := Go.Ground.data }, { on := 7, ground := Go.Ground.data }, { on := 7, ground := Go.Ground.chain }, { on := 0, ground := Go.Ground.phase }, { on := 1, ground := Go.Ground.phase }, { on := 2, ground := Go.Ground.phase }, { on := 3, ground := Go.Ground.phase }, { on := 4, ground := Go.Ground.phase }, { on := 5, ground := Go.Ground.phase }, { on := 6, ground := Go.Ground.phase }, { on := 7, ground := Go.Ground.phase }, { on := 8, ground := Go.Ground.phase }], guard := none }) rfl (fun Kc hK => ?_) AllReadyH.nil
              go_simp
              refine hK.out _ _ (HKVpaab5.out.cell' c5 id) (fun hHeld => ?_)
              clear hK Kc
              (try simp only [Act.put]); (try simp only [List.setIfInBounds_toArray]); (try simp only [List.set_cons_succ]); (try simp only [List.set_cons_zero])
              clear cX0 fX0 cX1 fX1 cX2 fX2 hVpaab5
              refine wpAnyH_done (by kernel_rfl) ?_ _
              clear hHeld
              exact key X Y Vpaab5 ⟨HRXVpaab5.out, HRYVpaab5.out, HKVpaab5.out, HZX.out, HZY.out⟩
          · obtain ⟨Vpab2, hVpab2⟩ : ∃ V, Vpa1.alloc (.cells #[.slice none 0 0, .int .i64 0, .pointer none] 37) = V := ⟨_, rfl⟩
            obtain ⟨X, hX⟩ : ∃ X, Vpa1.heap.size = X := ⟨_, rfl⟩
            have hkVpab2 : Keeps Vpa1 Vpab2 (fun _ => False) := by rw [← hVpab2]; exact (Keeps.refl _ _).alloc _
            have HRYVpab2 : Hid (Vpab2.heap[Y]? = some (.cells #[.int .u8 9] 5 (0, 0))) := hkVpab2.row HRYVpa1.out id
            have HKVpab2 : Hid (Keeps W8 Vpab2 (fun _ => False)) := HKVpa1.out.trans hkVpab2 fun _ _ e => e
            have HRXVpab2 : Hid (Vpab2.heap[X]? = some (.cells #[.slice none 0 0, .int .i64 0, .pointer none] 37 (0, 0))) := by rw [← hVpab2, ← hX]; exact heap_alloc_new _ _
            have HZX : Hid (W8.heap.size ≤ X) := by rw [← hX]; exact HKVpa1.out.size
            clear hkVpab2
            go_simp
            refine hK.out _ _ (HKVpab2.out.cell' c5 id) (fun hHeld => ?_)
            clear hK Kc
            (try simp only [Act.put]); (try simp only [List.setIfInBounds_toArray]); (try simp only [List.set_cons_succ]); (try simp only [List.set_cons_zero])
            clear hVpab2 hX
            refine wpAnyH_ready (rs := [1]) (by kernel_rfl) (by simp) ?_
            refine AllReadyH.cons (o := { dst := some 70, op := Go.Op.call { callee := Go.Callee.value (Go.Operand.func 14), args := #[Go.Operand.tmp 69], argTypes := #[22] }, type := 37, pos := "law.go:363", after := #[{ on := 0, ground := Go.Ground.data }], guard := none }) rfl (fun Kc hK => ?_) AllReadyH.nil
            go_simp
            go_at_call 14
            refine Calls.mono (of_any (some ⟨Y, 0, none⟩) 1 1 _) ?_
            rintro e Vpab3 ⟨rfl, hkVpab3⟩
            have HRYVpab3 : Hid (Vpab3.heap[Y]? = some (.cells #[.int .u8 9] 5 (0, 0))) := hkVpab3.row HRYVpab2.out id
            have HRXVpab3 : Hid (Vpab3.heap[X]? = some (.cells #[.slice none 0 0, .int .i64 0, .pointer none] 37 (0, 0))) := hkVpab3.row HRXVpab2.out id
            have HKVpab3 : Hid (Keeps W8 Vpab3 (fun _ => False)) := HKVpab2.out.trans hkVpab3 fun _ _ e => e
            clear hkVpab3
            unfold viewV
            go_wp2_with fail
            refine hK.out _ _ (HKVpab3.out.cell' c5 id) (fun hHeld => ?_)
            clear hK Kc
            (try simp only [Act.put]); (try simp only [List.setIfInBounds_toArray]); (try simp only [List.set_cons_succ]); (try simp only [List.set_cons_zero])
            refine wpAnyH_ready (rs := [7]) (by kernel_rfl) (by simp) ?_
            refine AllReadyH.cons (o := { dst := some 76, op := Go.Op.call { callee := Go.Callee.value (Go.Operand.func 15), args := #[Go.Operand.tmp 70, Go.Operand.tmp 75], argTypes := #[37, 34] }, type := 37, pos := "law.go:363", after := #[{ on := 1, ground := Go.Ground.data }, { on := 6, ground := Go.Ground.data }, { on := 1, ground := Go.Ground.chain }], guard := none }) rfl (fun Kc hK => ?_) AllReadyH.nil
            go_simp
            go_at_call 15
            refine Calls.mono (watched_any (some ⟨Y, 0, none⟩) 1 1 0 none (some c.q2) _) ?_
            rintro e Vpab4 ⟨rfl, hkVpab4⟩
            have HRYVpab4 : Hid (Vpab4.heap[Y]? = some (.cells #[.int .u8 9] 5 (0, 0))) := hkVpab4.row HRYVpab3.out id
            have HRXVpab4 : Hid (Vpab4.heap[X]? = some (.cells #[.slice none 0 0, .int .i64 0, .pointer none] 37 (0, 0))) := hkVpab4.row HRXVpab3.out id
            have HKVpab4 : Hid (Keeps W8 Vpab4 (fun _ => False)) := HKVpab3.out.trans hkVpab4 fun _ _ e => e
            clear hkVpab4
            unfold viewV
            go_wp2_with fail
            refine hK.out _ _ (HKVpab4.out.cell' c5 id) (fun hHeld => ?_)
            clear hK Kc
            (try simp only [Act.put]); (try simp only [List.setIfInBounds_toArray]); (try simp only [List.set_cons_succ]); (try simp only [List.set_cons_zero])
            obtain ⟨Vpab5, hVpab5⟩ : ∃ V, (((Vpab4.setCell ⟨X, 0, none⟩ (.slice (some ⟨Y, 0, none⟩) 1 1)).setCell ⟨X, 1, none⟩ (.int .i64 0)).setCell ⟨X, 2, none⟩ (.pointer (some ⟨c.q2, 0, none⟩))) = V := ⟨_, rfl⟩
            have cX0 := cell_of_row Vpab4 X 0 _ _ _ HRXVpab4.out
            have fX0 : Vpab4.frozen? ⟨X, 0, none⟩ = false := frozen_of_row Vpab4 X 0 _ _ HRXVpab4.out
            simp at cX0
            have cX1 := cell_of_row Vpab4 X 1 _ _ _ HRXVpab4.out
            have fX1 : Vpab4.frozen? ⟨X, 1, none⟩ = false := frozen_of_row Vpab4 X 1 _ _ HRXVpab4.out
            simp at cX1
            have cX2 := cell_of_row Vpab4 X 2 _ _ _ HRXVpab4.out
            have fX2 : Vpab4.frozen? ⟨X, 2, none⟩ = false := frozen_of_row Vpab4 X 2 _ _ HRXVpab4.out
            simp at cX2
            have hkVpab5 : Keeps Vpab4 Vpab5 (fun b => b = X) := by rw [← hVpab5]; exact ((((Keeps.refl Vpab4 (fun b => b = X)).setCell (p := ⟨X, 0, none⟩) (fun _ => rfl) _).setCell (p := ⟨X, 1, none⟩) (fun _ => rfl) _).setCell (p := ⟨X, 2, none⟩) (fun _ => rfl) _)
            have HRXVpab5 : Hid (Vpab5.heap[X]? = some (.cells #[.slice (some ⟨Y, 0, none⟩) 1 1, .int .i64 0, .pointer (some ⟨c.q2, 0, none⟩)] 37 (0, 0))) := by rw [← hVpab5]; exact (OwnRow.set (OwnRow.set (OwnRow.set (show OwnRow Vpab4 X 37 _ from HRXVpab4.out) 0 _) 1 _) 2 _)
            have hneY : Y ≠ X := fun e => by have h1 := HRYVpab4.out; rw [e, HRXVpab4.out] at h1; simp at h1
            have HRYVpab5 : Hid (Vpab5.heap[Y]? = some (.cells #[.int .u8 9] 5 (0, 0))) := hkVpab5.row HRYVpab4.out hneY
            clear hneY
            have HKVpab5 : Hid (Keeps W8 Vpab5 (fun _ => False)) := HKVpab4.out.trans hkVpab5 fun b hb e => by have := HZX.out; omega
            clear hkVpab5
            refine wpAnyH_ready (rs := [9]) (by kernel_rfl) (by simp) ?_
            refine AllReadyH.cons (o := { dst := none, op := Go.Op.store 37 (Go.Operand.tmp 6) (Go.Operand.tmp 76), type := 0, pos := "law.go:363", after := #[{ on := 8, ground := Go.Ground.data }, { on := 7, ground := Go.Ground.data }, { on := 7, ground := Go.Ground.chain }, { on := 0, ground := Go.Ground.phase }, { on := 1, ground := Go.Ground.phase }, { on := 2, ground := Go.Ground.phase }, { on := 3, ground := Go.Ground.phase }, { on := 4, ground := Go.Ground.phase }, { on := 5, ground := Go.Ground.phase }, { on := 6, ground := Go.Ground.phase }, { on := 7, ground := Go.Ground.phase }, { on := 8, ground := Go.Ground.phase }], guard := none }) rfl (fun Kc hK => ?_) AllReadyH.nil
            go_simp
            refine hK.out _ _ (HKVpab5.out.cell' c5 id) (fun hHeld => ?_)
            clear hK Kc
            (try simp only [Act.put]); (try simp only [List.setIfInBounds_toArray]); (try simp only [List.set_cons_succ]); (try simp only [List.set_cons_zero])
            clear cX0 fX0 cX1 fX1 cX2 fX2 hVpab5
            refine wpAnyH_done (by kernel_rfl) ?_ _
            clear hHeld
            exact key X Y Vpab5 ⟨HRXVpab5.out, HRYVpab5.out, HKVpab5.out, HZX.out, HZY.out⟩
        · obtain ⟨Vpb1, hVpb1⟩ : ∃ V, U0.alloc (.cells #[.slice none 0 0, .int .i64 0, .pointer none] 37) = V := ⟨_, rfl⟩
          obtain ⟨X, hX⟩ : ∃ X, U0.heap.size = X := ⟨_, rfl⟩
          have hkVpb1 : Keeps U0 Vpb1 (fun _ => False) := by rw [← hVpb1]; exact (Keeps.refl _ _).alloc _
          have HKVpb1 : Hid (Keeps W8 Vpb1 (fun _ => False)) := HKU0.out.trans hkVpb1 fun _ _ e => e
          have HRXVpb1 : Hid (Vpb1.heap[X]? = some (.cells #[.slice none 0 0, .int .i64 0, .pointer none] 37 (0, 0))) := by rw [← hVpb1, ← hX]; exact heap_alloc_new _ _
          have HZX : Hid (W8.heap.size ≤ X) := by rw [← hX]; exact HKU0.out.size
          clear hkVpb1
          go_simp
          refine hK.out _ _ (HKVpb1.out.cell' c5 id) (fun hHeld => ?_)
          clear hK Kc
          (try simp only [Act.put]); (try simp only [List.setIfInBounds_toArray]); (try simp only [List.set_cons_succ]); (try simp only [List.set_cons_zero])
          clear hVpb1 hX
          obtain ⟨Vpb2, hVpb2⟩ : ∃ V, Vpb1.alloc (.cells #[.int .u8 9] 5) = V := ⟨_, rfl⟩
          obtain ⟨Y, hY⟩ : ∃ X, Vpb1.heap.size = X := ⟨_, rfl⟩
          have hkVpb2 : Keeps Vpb1 Vpb2 (fun _ => False) := by rw [← hVpb2]; exact (Keeps.refl _ _).alloc _
          have HRXVpb2 : Hid (Vpb2.heap[X]? = some (.cells #[.slice none 0 0, .int .i64 0, .pointer none] 37 (0, 0))) := hkVpb2.row HRXVpb1.out id
          have HKVpb2 : Hid (Keeps W8 Vpb2 (fun _ => False)) := HKVpb1.out.trans hkVpb2 fun _ _ e => e
          have HRYVpb2 : Hid (Vpb2.heap[Y]? = some (.cells #[.int .u8 9] 5 (0, 0))) := by rw [← hVpb2, ← hY]; exact heap_alloc_new _ _
          have HZY : Hid (W8.heap.size ≤ Y) := by rw [← hY]; exact HKVpb1.out.size
          clear hkVpb2
          refine wpAnyH_ready (rs := [0]) (by kernel_rfl) (by simp) ?_
          refine AllReadyH.cons (o := { dst := some 69, op := Go.Op.buildSlice 22 1 #[(0, Go.Operand.const (Go.Value.int Go.IntKind.u8 9))], type := 22, pos := "law.go:363", after := #[], guard := none }) rfl (fun Kc hK => ?_) AllReadyH.nil
          go_simp
          refine hK.out _ _ (HKVpb2.out.cell' c5 id) (fun hHeld => ?_)
          clear hK Kc
          (try simp only [Act.put]); (try simp only [List.setIfInBounds_toArray]); (try simp only [List.set_cons_succ]); (try simp only [List.set_cons_zero])
          clear hVpb2 hY
          refine wpAnyH_ready (rs := [1]) (by kernel_rfl) (by simp) ?_
          refine AllReadyH.cons (o := { dst := some 70, op := Go.Op.call { callee := Go.Callee.value (Go.Operand.func 14), args := #[Go.Operand.tmp 69], argTypes := #[22] }, type := 37, pos := "law.go:363", after := #[{ on := 0, ground := Go.Ground.data }], guard := none }) rfl (fun Kc hK => ?_) AllReadyH.nil
          go_simp
          go_at_call 14
          refine Calls.mono (of_any (some ⟨Y, 0, none⟩) 1 1 _) ?_
          rintro e Vpb3 ⟨rfl, hkVpb3⟩
          have HRXVpb3 : Hid (Vpb3.heap[X]? = some (.cells #[.slice none 0 0, .int .i64 0, .pointer none] 37 (0, 0))) := hkVpb3.row HRXVpb2.out id
          have HRYVpb3 : Hid (Vpb3.heap[Y]? = some (.cells #[.int .u8 9] 5 (0, 0))) := hkVpb3.row HRYVpb2.out id
          have HKVpb3 : Hid (Keeps W8 Vpb3 (fun _ => False)) := HKVpb2.out.trans hkVpb3 fun _ _ e => e
          clear hkVpb3
          unfold viewV
          go_wp2_with fail
          refine hK.out _ _ (HKVpb3.out.cell' c5 id) (fun hHeld => ?_)
          clear hK Kc
          (try simp only [Act.put]); (try simp only [List.setIfInBounds_toArray]); (try simp only [List.set_cons_succ]); (try simp only [List.set_cons_zero])
          refine wpAnyH_ready (rs := [7]) (by kernel_rfl) (by simp) ?_
          refine AllReadyH.cons (o := { dst := some 76, op := Go.Op.call { callee := Go.Callee.value (Go.Operand.func 15), args := #[Go.Operand.tmp 70, Go.Operand.tmp 75], argTypes := #[37, 34] }, type := 37, pos := "law.go:363", after := #[{ on := 1, ground := Go.Ground.data }, { on := 6, ground := Go.Ground.data }, { on := 1, ground := Go.Ground.chain }], guard := none }) rfl (fun Kc hK => ?_) AllReadyH.nil
          go_simp
          go_at_call 15
          refine Calls.mono (watched_any (some ⟨Y, 0, none⟩) 1 1 0 none (some c.q2) _) ?_
          rintro e Vpb4 ⟨rfl, hkVpb4⟩
          have HRXVpb4 : Hid (Vpb4.heap[X]? = some (.cells #[.slice none 0 0, .int .i64 0, .pointer none] 37 (0, 0))) := hkVpb4.row HRXVpb3.out id
          have HRYVpb4 : Hid (Vpb4.heap[Y]? = some (.cells #[.int .u8 9] 5 (0, 0))) := hkVpb4.row HRYVpb3.out id
          have HKVpb4 : Hid (Keeps W8 Vpb4 (fun _ => False)) := HKVpb3.out.trans hkVpb4 fun _ _ e => e
          clear hkVpb4
          unfold viewV
          go_wp2_with fail
          refine hK.out _ _ (HKVpb4.out.cell' c5 id) (fun hHeld => ?_)
          clear hK Kc
          (try simp only [Act.put]); (try simp only [List.setIfInBounds_toArray]); (try simp only [List.set_cons_succ]); (try simp only [List.set_cons_zero])
          obtain ⟨Vpb5, hVpb5⟩ : ∃ V, (((Vpb4.setCell ⟨X, 0, none⟩ (.slice (some ⟨Y, 0, none⟩) 1 1)).setCell ⟨X, 1, none⟩ (.int .i64 0)).setCell ⟨X, 2, none⟩ (.pointer (some ⟨c.q2, 0, none⟩))) = V := ⟨_, rfl⟩
          have cX0 := cell_of_row Vpb4 X 0 _ _ _ HRXVpb4.out
          have fX0 : Vpb4.frozen? ⟨X, 0, none⟩ = false := frozen_of_row Vpb4 X 0 _ _ HRXVpb4.out
          simp at cX0
          have cX1 := cell_of_row Vpb4 X 1 _ _ _ HRXVpb4.out
          have fX1 : Vpb4.frozen? ⟨X, 1, none⟩ = false := frozen_of_row Vpb4 X 1 _ _ HRXVpb4.out
          simp at cX1
          have cX2 := cell_of_row Vpb4 X 2 _ _ _ HRXVpb4.out
          have fX2 : Vpb4.frozen? ⟨X, 2, none⟩ = false := frozen_of_row Vpb4 X 2 _ _ HRXVpb4.out
          simp at cX2
          have hkVpb5 : Keeps Vpb4 Vpb5 (fun b => b = X) := by rw [← hVpb5]; exact ((((Keeps.refl Vpb4 (fun b => b = X)).setCell (p := ⟨X, 0, none⟩) (fun _ => rfl) _).setCell (p := ⟨X, 1, none⟩) (fun _ => rfl) _).setCell (p := ⟨X, 2, none⟩) (fun _ => rfl) _)
          have HRXVpb5 : Hid (Vpb5.heap[X]? = some (.cells #[.slice (some ⟨Y, 0, none⟩) 1 1, .int .i64 0, .pointer (some ⟨c.q2, 0, none⟩)] 37 (0, 0))) := by rw [← hVpb5]; exact (OwnRow.set (OwnRow.set (OwnRow.set (show OwnRow Vpb4 X 37 _ from HRXVpb4.out) 0 _) 1 _) 2 _)
          have hneY : Y ≠ X := fun e => by have h1 := HRYVpb4.out; rw [e, HRXVpb4.out] at h1; simp at h1
          have HRYVpb5 : Hid (Vpb5.heap[Y]? = some (.cells #[.int .u8 9] 5 (0, 0))) := hkVpb5.row HRYVpb4.out hneY
          clear hneY
          have HKVpb5 : Hid (Keeps W8 Vpb5 (fun _ => False)) := HKVpb4.out.trans hkVpb5 fun b hb e => by have := HZX.out; omega
          clear hkVpb5
          refine wpAnyH_ready (rs := [9]) (by kernel_rfl) (by simp) ?_
          refine AllReadyH.cons (o := { dst := none, op := Go.Op.store 37 (Go.Operand.tmp 6) (Go.Operand.tmp 76), type := 0, pos := "law.go:363", after := #[{ on := 8, ground := Go.Ground.data }, { on := 7, ground := Go.Ground.data }, { on := 7, ground := Go.Ground.chain }, { on := 0, ground := Go.Ground.phase }, { on := 1, ground := Go.Ground.phase }, { on := 2, ground := Go.Ground.phase }, { on := 3, ground := Go.Ground.phase }, { on := 4, ground := Go.Ground.phase }, { on := 5, ground := Go.Ground.phase }, { on := 6, ground := Go.Ground.phase }, { on := 7, ground := Go.Ground.phase }, { on := 8, ground := Go.Ground.phase }], guard := none }) rfl (fun Kc hK => ?_) AllReadyH.nil
          go_simp
          refine hK.out _ _ (HKVpb5.out.cell' c5 id) (fun hHeld => ?_)
          clear hK Kc
          (try simp only [Act.put]); (try simp only [List.setIfInBounds_toArray]); (try simp only [List.set_cons_succ]); (try simp only [List.set_cons_zero])
          clear cX0 fX0 cX1 fX1 cX2 fX2 hVpb5
          refine wpAnyH_done (by kernel_rfl) ?_ _
          clear hHeld
          exact key X Y Vpb5 ⟨HRXVpb5.out, HRYVpb5.out, HKVpb5.out, HZX.out, HZY.out⟩
      rintro X6 Y6 W11 ⟨h1, h2, h3, h4, h5⟩
      have HG11 : Hid (Go c NoF W8 (g00 l) W11 (g00 l)) := HIv.out.rest0 h3
      have HYo := hidM (HIv.out.out h5)
      obtain ⟨x0, x1, x2⟩ := boxCells3 h1
      have HLk : Hid (Looks W11 (some ⟨Y6, 0, none⟩) 1 1 0 (some c.q2) none [] [9]) := ⟨⟨by omega, by omega, .inr ⟨Y6, 0, rfl⟩⟩, fun _ => ⟨Y6, 0, rfl, fun k hk => by
        have e : k = 0 := by omega
        subst e
        rw [cell_of_row _ Y6 (0 + 0) _ _ _ h2]
        rfl⟩, rfl, by simp, HG11.out.inv.cm .w2, ⟨by omega, by omega⟩, by simp, fun b o e _ => by
        simp at e
        obtain ⟨e1, -⟩ := e
        subst e1
        exact ⟨fun q => HYo.out .w2 (.inl (Option.some.inj q)), nofun⟩⟩
      clear h1 h2 h3 h4 h5 c4 c5
      go_wp2_with fail
      go_at_call 39
      refine Calls.mono (byte_in (some ⟨Y6, 0, none⟩) 1 1 0 (some c.q2) none [] [9] 0 _ (by omega) HLk.out) ?_
      rintro e W12 ⟨rfl, hd⟩
      have e2 : tellR (some c.q2) [] (0 + ((0 : Nat) : Int)) (0 + ((0 : Nat) : Int) + 1) = [(0, 1)] := by simp [tellR]
      rw [e2] at hd
      obtain ⟨gq2, hg⟩ := HG11.out.inv.wat2 hd
      obtain ⟨g1, hg1⟩ : ∃ g1, g1 = ({ g00 l with gq2 := gq2, w2 := [(0, 1)] } : Gh) := ⟨_, rfl⟩
      rw [← hg1] at hg
      have HGG1 := hidM hg1
      have HG12 := hidM (HG11.out.trans hg (fun _ f => f.elim))
      have c8 : W12.cell? ⟨c.m, 8, none⟩ = some (.slice none 0 0) := HG12.out.inv.cell (by rw [HGG1.out]; rfl)
      have Hc8 : Hid ((csOf c g1)[8]? = some (.slice none 0 0)) := hidM (by rw [HGG1.out]; rfl)
      clear hd e2 hg hg1 HG11 HLk HYo x0 x1 x2
      go_wp2_with fail
      refine' share3 (fun (Y : Nat) (uo : Option Addr) (uc : Nat) (w' : World) => ∃ v', Go c NoF W12 g1 w' { g1 with v8 := v', t2 := [(0, 1)] }) ?_ ?_
      rotate_left 1
      · intro key
        obtain ⟨U0, hU0⟩ : ∃ U0, W12.drew = U0 := ⟨_, rfl⟩
        have HKU0 : Hid (Keeps W12 U0 (fun _ => False)) := by rw [← hU0]; exact (Keeps.refl _ _).drew
        refine wp_region_held_drew (S := fun _ => True) (by kernel_rfl) trivial (fun hHeld => ?_)
        rw [hU0]
        clear hU0
        have c8u : U0.cell? ⟨c.m, 8, none⟩ = some (.slice none 0 0) := HKU0.out.cell' c8 id
        refine wpAnyH_take (i := 0) (oi := { dst := some 82, op := Go.Op.move (Go.Operand.tmp 4), type := 24, pos := "law.go:365", after := #[], guard := none }) (v := ?v0s1) rfl (by kernel_rfl) (by kernel_rfl) (by kernel_rfl) (fun _ _ _ h => h) (Or.inl ⟨by rfl, ?y0s1⟩) (by assumption) ?r0s1
        case y0s1 => (intro w hSw; go_simp; (try with_reducible rfl))
        (try simp only [Act.put]); (try simp only [List.setIfInBounds_toArray]); (try simp only [List.set_cons_succ]); (try simp only [List.set_cons_zero])
        refine wpAnyH_take (i := 1) (oi := { dst := some 83, op := Go.Op.move (Go.Operand.tmp 4), type := 24, pos := "law.go:365", after := #[], guard := none }) (v := ?v1s2) rfl (by kernel_rfl) (by kernel_rfl) (by kernel_rfl) (fun _ _ _ h => h) (Or.inl ⟨by rfl, ?y1s2⟩) (by assumption) ?r1s2
        case y1s2 => (intro w hSw; go_simp; (try with_reducible rfl))
        (try simp only [Act.put]); (try simp only [List.setIfInBounds_toArray]); (try simp only [List.set_cons_succ]); (try simp only [List.set_cons_zero])
        refine wpAnyH_take (i := 2) (oi := { dst := some 84, op := Go.Op.nilCheck (Go.Operand.tmp 83), type := 0, pos := "law.go:365", after := #[{ on := 1, ground := Go.Ground.data }], guard := none }) (v := ?v2s3) rfl (by kernel_rfl) (by kernel_rfl) (by kernel_rfl) (fun _ _ _ h => h) (Or.inl ⟨by rfl, ?y2s3⟩) (by assumption) ?r2s3
        case y2s3 => (intro w hSw; go_simp; (try with_reducible rfl))
        (try simp only [Act.put]); (try simp only [List.setIfInBounds_toArray]); (try simp only [List.set_cons_succ]); (try simp only [List.set_cons_zero])
        refine wpAnyH_take (i := 3) (oi := { dst := some 85, op := Go.Op.fieldAddr 87 (Go.Operand.tmp 84) 4, type := 0, pos := "law.go:365", after := #[{ on := 2, ground := Go.Ground.data }], guard := none }) (v := ?v3s4) rfl (by kernel_rfl) (by kernel_rfl) (by kernel_rfl) (fun _ _ _ h => h) (Or.inl ⟨by rfl, ?y3s4⟩) (by assumption) ?r3s4
        case y3s4 => (intro w hSw; go_simp; (try with_reducible rfl))
        (try simp only [Act.put]); (try simp only [List.setIfInBounds_toArray]); (try simp only [List.set_cons_succ]); (try simp only [List.set_cons_zero])
        refine wpAnyH_take (i := 4) (oi := { dst := some 86, op := Go.Op.indexAddr 80 (Go.Operand.tmp 85) (Go.Operand.const (Go.Value.int Go.IntKind.i64 2)), type := 0, pos := "law.go:365", after := #[{ on := 3, ground := Go.Ground.data }], guard := none }) (v := ?v4s5) rfl (by kernel_rfl) (by kernel_rfl) (by kernel_rfl) (fun _ _ _ h => h) (Or.inl ⟨by rfl, ?y4s5⟩) (by assumption) ?r4s5
        case y4s5 => (intro w hSw; go_simp; (try with_reducible rfl))
        (try simp only [Act.put]); (try simp only [List.setIfInBounds_toArray]); (try simp only [List.set_cons_succ]); (try simp only [List.set_cons_zero])
        refine wpAnyH_take (i := 6) (oi := { dst := some 88, op := Go.Op.build 50 #[(0, Go.Operand.const (Go.Value.int Go.IntKind.i64 0)), (1, Go.Operand.const (Go.Value.int Go.IntKind.i64 1))], type := 50, pos := "law.go:365", after := #[], guard := none }) (v := ?v6s6) rfl (by kernel_rfl) (by kernel_rfl) (by kernel_rfl) (fun _ _ _ h => h) (Or.inl ⟨by rfl, ?y6s6⟩) (by assumption) ?r6s6
        case y6s6 => (intro w hSw; go_simp; (try with_reducible rfl))
        (try simp only [Act.put]); (try simp only [List.setIfInBounds_toArray]); (try simp only [List.set_cons_succ]); (try simp only [List.set_cons_zero])
        refine wpAnyH_take (i := 9) (oi := { dst := some 91, op := Go.Op.nilCheck (Go.Operand.tmp 82), type := 0, pos := "law.go:365", after := #[{ on := 0, ground := Go.Ground.data }], guard := none }) (v := ?v9s7) rfl (by kernel_rfl) (by kernel_rfl) (by kernel_rfl) (fun _ _ _ h => h) (Or.inl ⟨by rfl, ?y9s7⟩) (by assumption) ?r9s7
        case y9s7 => (intro w hSw; go_simp; (try with_reducible rfl))
        (try simp only [Act.put]); (try simp only [List.setIfInBounds_toArray]); (try simp only [List.set_cons_succ]); (try simp only [List.set_cons_zero])
        refine wpAnyH_take (i := 10) (oi := { dst := some 92, op := Go.Op.fieldAddr 87 (Go.Operand.tmp 91) 4, type := 0, pos := "law.go:365", after := #[{ on := 9, ground := Go.Ground.data }], guard := none }) (v := ?v10s8) rfl (by kernel_rfl) (by kernel_rfl) (by kernel_rfl) (fun _ _ _ h => h) (Or.inl ⟨by rfl, ?y10s8⟩) (by assumption) ?r10s8
        case y10s8 => (intro w hSw; go_simp; (try with_reducible rfl))
        (try simp only [Act.put]); (try simp only [List.setIfInBounds_toArray]); (try simp only [List.set_cons_succ]); (try simp only [List.set_cons_zero])
        refine wpAnyH_ready (rs := [5, 7]) (by kernel_rfl) (by simp) ?_
        refine AllReadyH.cons (o := { dst := some 87, op := Go.Op.load 44 (Go.Operand.tmp 86), type := 44, pos := "law.go:365", after := #[{ on := 4, ground := Go.Ground.data }], guard := none }) rfl (fun Kc hK => ?_) (AllReadyH.cons (o := { dst := some 89, op := Go.Op.buildSlice 44 1 #[(0, Go.Operand.tmp 88)], type := 44, pos := "law.go:365", after := #[{ on := 6, ground := Go.Ground.data }], guard := none }) rfl (fun Kc hK => ?_) AllReadyH.nil)
        · go_simp
          refine hK.out _ _ (trivial) (fun hHeld => ?_)
          clear hK Kc
          (try simp only [Act.put]); (try simp only [List.setIfInBounds_toArray]); (try simp only [List.set_cons_succ]); (try simp only [List.set_cons_zero])
          obtain ⟨Vsa1, hVsa1⟩ : ∃ V, U0.alloc (.cells #[.int .i64 0, .int .i64 1] 50) = V := ⟨_, rfl⟩
          obtain ⟨Y, hY⟩ : ∃ X, U0.heap.size = X := ⟨_, rfl⟩
          have HKVsa1 : Hid (Keeps W12 Vsa1 (fun _ => False)) := by rw [← hVsa1]; exact HKU0.out.alloc _
          have HSr : Hid (Src Try.prog 2 44 (.slice (some ⟨Y, 0, none⟩) 1 1) 1 [.int .i64 0, .int .i64 1] Vsa1) := by rw [← hVsa1, ← hY]; exact src_read' _ _ _
          have c8' : Vsa1.cell? ⟨c.m, 8, none⟩ = some (.slice none 0 0) := HKVsa1.out.cell' c8 id
          refine wpAnyH_ready (rs := [7]) (by kernel_rfl) (by simp) ?_
          refine AllReadyH.cons (o := { dst := some 89, op := Go.Op.buildSlice 44 1 #[(0, Go.Operand.tmp 88)], type := 44, pos := "law.go:365", after := #[{ on := 6, ground := Go.Ground.data }], guard := none }) rfl (fun Kc hK => ?_) AllReadyH.nil
          go_simp
          refine hK.out _ _ trivial (fun hHeld => ?_)
          clear hK Kc
          (try simp only [Act.put]); (try simp only [List.setIfInBounds_toArray]); (try simp only [List.set_cons_succ]); (try simp only [List.set_cons_zero])
          clear hVsa1 hY
          refine wpAnyH_ready (rs := [8]) (by kernel_rfl) (by simp) ?_
          refine AllReadyH.cons (o := { dst := some 90, op := Go.Op.call { callee := Go.Callee.builtin Go.Builtin.append, args := #[Go.Operand.tmp 87, Go.Operand.tmp 89], argTypes := #[44, 44] }, type := 44, pos := "law.go:365", after := #[{ on := 5, ground := Go.Ground.data }, { on := 7, ground := Go.Ground.data }], guard := none }) rfl (fun Kc hK => ?_) AllReadyH.nil
          refine step_append_anyN (P := Try.prog) _ rfl (.tmp 87) (.tmp 89) 44 44 rfl 50 (.agg #[.int .i64 0, .int .i64 0]) 2 16 Try.underlying44 info50 rfl (.slice none 0 0) 0 [] rfl (World.ownsRow_nil _ _ _ _) (.slice (some ⟨Y, 0, none⟩) 1 1) 1 [.int .i64 0, .int .i64 1] rfl HSr.out (by omega) (by omega) ?_
          intro v' w7 ha1 ha2 ha3
          obtain ⟨uo, uc, rfl⟩ := ownN_form ha1
          obtain ⟨p1, p2, hrd⟩ := RowDone.grown (w := W12) (off := 8) (by decide) HKVsa1.out HG12.out.inv.room Hc8.out (fun g' e => by simp [Value.ownBlock] at e) ha1 ha2 ha3
          have HRD := hidM hrd
          clear ha1 ha2 ha3 hrd
          refine hK.out _ _ trivial (fun hHeld => ?_)
          clear hK Kc
          (try simp only [Act.put]); (try simp only [List.setIfInBounds_toArray]); (try simp only [List.set_cons_succ]); (try simp only [List.set_cons_zero])
          refine wpAnyH_take (i := 11) (oi := { dst := some 93, op := Go.Op.indexAddr 80 (Go.Operand.tmp 92) (Go.Operand.const (Go.Value.int Go.IntKind.i64 2)), type := 0, pos := "law.go:365", after := #[{ on := 10, ground := Go.Ground.data }, { on := 0, ground := Go.Ground.phase }, { on := 1, ground := Go.Ground.phase }, { on := 2, ground := Go.Ground.phase }, { on := 3, ground := Go.Ground.phase }, { on := 4, ground := Go.Ground.phase }, { on := 5, ground := Go.Ground.phase }, { on := 6, ground := Go.Ground.phase }, { on := 7, ground := Go.Ground.phase }, { on := 8, ground := Go.Ground.phase }], guard := none }) (v := ?v11sa1) rfl (by kernel_rfl) (by kernel_rfl) (by kernel_rfl) (fun _ _ _ h => h) (Or.inl ⟨by rfl, ?y11sa1⟩) (by assumption) ?r11sa1
          case y11sa1 => (intro w hSw; go_simp; (try with_reducible rfl))
          (try simp only [Act.put]); (try simp only [List.setIfInBounds_toArray]); (try simp only [List.set_cons_succ]); (try simp only [List.set_cons_zero])
          refine wpAnyH_ready (rs := [12]) (by kernel_rfl) (by simp) ?_
          refine AllReadyH.cons (o := { dst := none, op := Go.Op.store 44 (Go.Operand.tmp 93) (Go.Operand.tmp 90), type := 0, pos := "law.go:365", after := #[{ on := 11, ground := Go.Ground.data }, { on := 8, ground := Go.Ground.data }, { on := 8, ground := Go.Ground.chain }, { on := 0, ground := Go.Ground.phase }, { on := 1, ground := Go.Ground.phase }, { on := 2, ground := Go.Ground.phase }, { on := 3, ground := Go.Ground.phase }, { on := 4, ground := Go.Ground.phase }, { on := 5, ground := Go.Ground.phase }, { on := 6, ground := Go.Ground.phase }, { on := 7, ground := Go.Ground.phase }, { on := 8, ground := Go.Ground.phase }], guard := none }) rfl (fun Kc hK => ?_) AllReadyH.nil
          go_simp
          refine hK.out _ _ trivial (fun hHeld => ?_)
          clear hK Kc
          (try simp only [Act.put]); (try simp only [List.setIfInBounds_toArray]); (try simp only [List.set_cons_succ]); (try simp only [List.set_cons_zero])
          refine wpAnyH_done (by kernel_rfl) ?_ _
          clear hHeld
          have hrd := HRD.out
          skip
          obtain ⟨Wf, hWf⟩ : ∃ Wf, w7.setCell ⟨c.m, 8, none⟩ (.slice uo 1 uc) = Wf := ⟨_, rfl⟩
          have hrd : RowDone W12 (w7.setCell ⟨c.m, 8, none⟩ (.slice uo 1 uc)) c.m 8 50 2 (csOf c g1) (.slice none 0 0) 1 [.int .i64 0, .int .i64 1] := HRD.out
          rw [hWf] at hrd ⊢
          have hv8 : g1.v8 = .slice none 0 0 := by rw [HGG1.out]; rfl
          exact key Y uo uc Wf (HG12.out.inv.told2 (by rw [hv8]; exact hrd))
        · obtain ⟨Vsb1, hVsb1⟩ : ∃ V, U0.alloc (.cells #[.int .i64 0, .int .i64 1] 50) = V := ⟨_, rfl⟩
          obtain ⟨Y, hY⟩ : ∃ X, U0.heap.size = X := ⟨_, rfl⟩
          have HKVsb1 : Hid (Keeps W12 Vsb1 (fun _ => False)) := by rw [← hVsb1]; exact HKU0.out.alloc _
          have HSr : Hid (Src Try.prog 2 44 (.slice (some ⟨Y, 0, none⟩) 1 1) 1 [.int .i64 0, .int .i64 1] Vsb1) := by rw [← hVsb1, ← hY]; exact src_read' _ _ _
          have c8' : Vsb1.cell? ⟨c.m, 8, none⟩ = some (.slice none 0 0) := HKVsb1.out.cell' c8 id
          go_simp
          refine hK.out _ _ trivial (fun hHeld => ?_)
          clear hK Kc
          (try simp only [Act.put]); (try simp only [List.setIfInBounds_toArray]); (try simp only [List.set_cons_succ]); (try simp only [List.set_cons_zero])
          clear hVsb1 hY
          refine wpAnyH_ready (rs := [5]) (by kernel_rfl) (by simp) ?_
          refine AllReadyH.cons (o := { dst := some 87, op := Go.Op.load 44 (Go.Operand.tmp 86), type := 44, pos := "law.go:365", after := #[{ on := 4, ground := Go.Ground.data }], guard := none }) rfl (fun Kc hK => ?_) AllReadyH.nil
          go_simp
          refine hK.out _ _ (trivial) (fun hHeld => ?_)
          clear hK Kc
          (try simp only [Act.put]); (try simp only [List.setIfInBounds_toArray]); (try simp only [List.set_cons_succ]); (try simp only [List.set_cons_zero])
          refine wpAnyH_ready (rs := [8]) (by kernel_rfl) (by simp) ?_
          refine AllReadyH.cons (o := { dst := some 90, op := Go.Op.call { callee := Go.Callee.builtin Go.Builtin.append, args := #[Go.Operand.tmp 87, Go.Operand.tmp 89], argTypes := #[44, 44] }, type := 44, pos := "law.go:365", after := #[{ on := 5, ground := Go.Ground.data }, { on := 7, ground := Go.Ground.data }], guard := none }) rfl (fun Kc hK => ?_) AllReadyH.nil
          refine step_append_anyN (P := Try.prog) _ rfl (.tmp 87) (.tmp 89) 44 44 rfl 50 (.agg #[.int .i64 0, .int .i64 0]) 2 16 Try.underlying44 info50 rfl (.slice none 0 0) 0 [] rfl (World.ownsRow_nil _ _ _ _) (.slice (some ⟨Y, 0, none⟩) 1 1) 1 [.int .i64 0, .int .i64 1] rfl HSr.out (by omega) (by omega) ?_
          intro v' w7 ha1 ha2 ha3
          obtain ⟨uo, uc, rfl⟩ := ownN_form ha1
          obtain ⟨p1, p2, hrd⟩ := RowDone.grown (w := W12) (off := 8) (by decide) HKVsb1.out HG12.out.inv.room Hc8.out (fun g' e => by simp [Value.ownBlock] at e) ha1 ha2 ha3
          have HRD := hidM hrd
          clear ha1 ha2 ha3 hrd
          refine hK.out _ _ trivial (fun hHeld => ?_)
          clear hK Kc
          (try simp only [Act.put]); (try simp only [List.setIfInBounds_toArray]); (try simp only [List.set_cons_succ]); (try simp only [List.set_cons_zero])
          refine wpAnyH_take (i := 11) (oi := { dst := some 93, op := Go.Op.indexAddr 80 (Go.Operand.tmp 92) (Go.Operand.const (Go.Value.int Go.IntKind.i64 2)), type := 0, pos := "law.go:365", after := #[{ on := 10, ground := Go.Ground.data }, { on := 0, ground := Go.Ground.phase }, { on := 1, ground := Go.Ground.phase }, { on := 2, ground := Go.Ground.phase }, { on := 3, ground := Go.Ground.phase }, { on := 4, ground := Go.Ground.phase }, { on := 5, ground := Go.Ground.phase }, { on := 6, ground := Go.Ground.phase }, { on := 7, ground := Go.Ground.phase }, { on := 8, ground := Go.Ground.phase }], guard := none }) (v := ?v11sb1) rfl (by kernel_rfl) (by kernel_rfl) (by kernel_rfl) (fun _ _ _ h => h) (Or.inl ⟨by rfl, ?y11sb1⟩) (by assumption) ?r11sb1
          case y11sb1 => (intro w hSw; go_simp; (try with_reducible rfl))
          (try simp only [Act.put]); (try simp only [List.setIfInBounds_toArray]); (try simp only [List.set_cons_succ]); (try simp only [List.set_cons_zero])
          refine wpAnyH_ready (rs := [12]) (by kernel_rfl) (by simp) ?_
          refine AllReadyH.cons (o := { dst := none, op := Go.Op.store 44 (Go.Operand.tmp 93) (Go.Operand.tmp 90), type := 0, pos := "law.go:365", after := #[{ on := 11, ground := Go.Ground.data }, { on := 8, ground := Go.Ground.data }, { on := 8, ground := Go.Ground.chain }, { on := 0, ground := Go.Ground.phase }, { on := 1, ground := Go.Ground.phase }, { on := 2, ground := Go.Ground.phase }, { on := 3, ground := Go.Ground.phase }, { on := 4, ground := Go.Ground.phase }, { on := 5, ground := Go.Ground.phase }, { on := 6, ground := Go.Ground.phase }, { on := 7, ground := Go.Ground.phase }, { on := 8, ground := Go.Ground.phase }], guard := none }) rfl (fun Kc hK => ?_) AllReadyH.nil
          go_simp
          refine hK.out _ _ trivial (fun hHeld => ?_)
          clear hK Kc
          (try simp only [Act.put]); (try simp only [List.setIfInBounds_toArray]); (try simp only [List.set_cons_succ]); (try simp only [List.set_cons_zero])
          refine wpAnyH_done (by kernel_rfl) ?_ _
          clear hHeld
          have hrd := HRD.out
          skip
          obtain ⟨Wf, hWf⟩ : ∃ Wf, w7.setCell ⟨c.m, 8, none⟩ (.slice uo 1 uc) = Wf := ⟨_, rfl⟩
          have hrd : RowDone W12 (w7.setCell ⟨c.m, 8, none⟩ (.slice uo 1 uc)) c.m 8 50 2 (csOf c g1) (.slice none 0 0) 1 [.int .i64 0, .int .i64 1] := HRD.out
          rw [hWf] at hrd ⊢
          have hv8 : g1.v8 = .slice none 0 0 := by rw [HGG1.out]; rfl
          exact key Y uo uc Wf (HG12.out.inv.told2 (by rw [hv8]; exact hrd))
      rintro Y13 uo13 uc13 W13 ⟨v8', hg⟩
      obtain ⟨g2, hg2⟩ : ∃ g2, g2 = ({ g1 with v8 := v8', t2 := [(0, 1)] } : Gh) := ⟨_, rfl⟩
      rw [← hg2] at hg
      have HGG2 := hidM hg2
      have HG13 := hidM (HG12.out.trans hg (fun _ f => f.elim))
      clear hg hg2 HG12 c8 Hc8
      have c0 : W13.cell? ⟨c.m, 0, none⟩ = some (.slice (some ⟨c.A, 0, none⟩) NA NA) := HG13.out.inv.cell (by rw [HNA.out]; rfl)
      have c1 : W13.cell? ⟨c.m, 1, none⟩ = some (.int .i64 c.N) := HG13.out.inv.cell rfl
      have hNN : c.N ≤ NA := by have := HNA.out; omega
      have hNNI : (c.N : Int) ≤ (NA : Int) := by omega
      go_wp2_with fail
      refine' share1 (fun (X : Nat) (w' : World) => w'.heap[X]? = some (.cells #[.slice (some ⟨c.A, 0, none⟩) c.N NA, .int .i64 0, .pointer none] 37 (0, 0)) ∧ Keeps W13 w' (fun _ => False) ∧ W13.heap.size ≤ X) ?_ ?_
      rotate_left 1
      · intro key
        obtain ⟨U0, hU0⟩ : ∃ U0, W13.drew = U0 := ⟨_, rfl⟩
        have HKU0 : Hid (Keeps W13 U0 (fun _ => False)) := by rw [← hU0]; exact (Keeps.refl _ _).drew
        refine wp_region_held_drew (S := fun w' => w'.cell? ⟨c.m, 0, none⟩ = some (.slice (some ⟨c.A, 0, none⟩) NA NA) ∧ w'.cell? ⟨c.m, 1, none⟩ = some (.int .i64 c.N)) (by kernel_rfl) (by rw [hU0]; exact ⟨HKU0.out.cell' c0 id, HKU0.out.cell' c1 id⟩) (fun hHeld => ?_)
        rw [hU0] at hHeld ⊢
        clear hU0
        refine wpAnyH_take (i := 0) (oi := { dst := some 94, op := Go.Op.move (Go.Operand.tmp 4), type := 24, pos := "law.go:366", after := #[], guard := none }) (v := ?v0e1) rfl (by kernel_rfl) (by kernel_rfl) (by kernel_rfl) (fun _ _ _ h => h) (Or.inl ⟨by rfl, ?y0e1⟩) (by assumption) ?r0e1
        case y0e1 => (intro w hSw; obtain ⟨s0, s1⟩ := hSw; go_simp; (try with_reducible rfl))
        (try simp only [Act.put]); (try simp only [List.setIfInBounds_toArray]); (try simp only [List.set_cons_succ]); (try simp only [List.set_cons_zero])
        refine wpAnyH_take (i := 1) (oi := { dst := some 95, op := Go.Op.nilCheck (Go.Operand.tmp 94), type := 0, pos := "law.go:366", after := #[{ on := 0, ground := Go.Ground.data }], guard := none }) (v := ?v1e2) rfl (by kernel_rfl) (by kernel_rfl) (by kernel_rfl) (fun _ _ _ h => h) (Or.inl ⟨by rfl, ?y1e2⟩) (by assumption) ?r1e2
        case y1e2 => (intro w hSw; obtain ⟨s0, s1⟩ := hSw; go_simp; (try with_reducible rfl))
        (try simp only [Act.put]); (try simp only [List.setIfInBounds_toArray]); (try simp only [List.set_cons_succ]); (try simp only [List.set_cons_zero])
        refine wpAnyH_take (i := 2) (oi := { dst := some 96, op := Go.Op.fieldAddr 87 (Go.Operand.tmp 95) 0, type := 0, pos := "law.go:366", after := #[{ on := 1, ground := Go.Ground.data }], guard := none }) (v := ?v2e3) rfl (by kernel_rfl) (by kernel_rfl) (by kernel_rfl) (fun _ _ _ h => h) (Or.inl ⟨by rfl, ?y2e3⟩) (by assumption) ?r2e3
        case y2e3 => (intro w hSw; obtain ⟨s0, s1⟩ := hSw; go_simp; (try with_reducible rfl))
        (try simp only [Act.put]); (try simp only [List.setIfInBounds_toArray]); (try simp only [List.set_cons_succ]); (try simp only [List.set_cons_zero])
        refine wpAnyH_take (i := 3) (oi := { dst := some 97, op := Go.Op.load 22 (Go.Operand.tmp 96), type := 22, pos := "law.go:366", after := #[{ on := 2, ground := Go.Ground.data }], guard := none }) (v := ?v3e4) rfl (by kernel_rfl) (by kernel_rfl) (by kernel_rfl) (fun _ _ _ h => h) (Or.inl ⟨by rfl, ?y3e4⟩) (by assumption) ?r3e4
        case y3e4 => (intro w hSw; obtain ⟨s0, s1⟩ := hSw; go_simp; (try with_reducible rfl))
        (try simp only [Act.put]); (try simp only [List.setIfInBounds_toArray]); (try simp only [List.set_cons_succ]); (try simp only [List.set_cons_zero])
        refine wpAnyH_take (i := 4) (oi := { dst := some 98, op := Go.Op.move (Go.Operand.tmp 4), type := 24, pos := "law.go:366", after := #[], guard := none }) (v := ?v4e5) rfl (by kernel_rfl) (by kernel_rfl) (by kernel_rfl) (fun _ _ _ h => h) (Or.inl ⟨by rfl, ?y4e5⟩) (by assumption) ?r4e5
        case y4e5 => (intro w hSw; obtain ⟨s0, s1⟩ := hSw; go_simp; (try with_reducible rfl))
        (try simp only [Act.put]); (try simp only [List.setIfInBounds_toArray]); (try simp only [List.set_cons_succ]); (try simp only [List.set_cons_zero])
        refine wpAnyH_take (i := 5) (oi := { dst := some 99, op := Go.Op.nilCheck (Go.Operand.tmp 98), type := 0, pos := "law.go:366", after := #[{ on := 4, ground := Go.Ground.data }], guard := none }) (v := ?v5e6) rfl (by kernel_rfl) (by kernel_rfl) (by kernel_rfl) (fun _ _ _ h => h) (Or.inl ⟨by rfl, ?y5e6⟩) (by assumption) ?r5e6
        case y5e6 => (intro w hSw; obtain ⟨s0, s1⟩ := hSw; go_simp; (try with_reducible rfl))
        (try simp only [Act.put]); (try simp only [List.setIfInBounds_toArray]); (try simp only [List.set_cons_succ]); (try simp only [List.set_cons_zero])
        refine wpAnyH_take (i := 6) (oi := { dst := some 100, op := Go.Op.fieldAddr 87 (Go.Operand.tmp 99) 1, type := 0, pos := "law.go:366", after := #[{ on := 5, ground := Go.Ground.data }], guard := none }) (v := ?v6e7) rfl (by kernel_rfl) (by kernel_rfl) (by kernel_rfl) (fun _ _ _ h => h) (Or.inl ⟨by rfl, ?y6e7⟩) (by assumption) ?r6e7
        case y6e7 => (intro w hSw; obtain ⟨s0, s1⟩ := hSw; go_simp; (try with_reducible rfl))
        (try simp only [Act.put]); (try simp only [List.setIfInBounds_toArray]); (try simp only [List.set_cons_succ]); (try simp only [List.set_cons_zero])
        refine wpAnyH_take (i := 7) (oi := { dst := some 101, op := Go.Op.load 3 (Go.Operand.tmp 100), type := 3, pos := "law.go:366", after := #[{ on := 6, ground := Go.Ground.data }], guard := none }) (v := ?v7e8) rfl (by kernel_rfl) (by kernel_rfl) (by kernel_rfl) (fun _ _ _ h => h) (Or.inl ⟨by rfl, ?y7e8⟩) (by assumption) ?r7e8
        case y7e8 => (intro w hSw; obtain ⟨s0, s1⟩ := hSw; go_simp; (try with_reducible rfl))
        (try simp only [Act.put]); (try simp only [List.setIfInBounds_toArray]); (try simp only [List.set_cons_succ]); (try simp only [List.set_cons_zero])
        refine wpAnyH_take (i := 8) (oi := { dst := some 102, op := Go.Op.slice 22 (Go.Operand.tmp 97) none (some (Go.Operand.tmp 101)) none, type := 22, pos := "law.go:366", after := #[{ on := 3, ground := Go.Ground.data }, { on := 7, ground := Go.Ground.data }], guard := none }) (v := ?v8e9) rfl (by kernel_rfl) (by kernel_rfl) (by kernel_rfl) (fun _ _ _ h => h) (Or.inl ⟨by rfl, ?y8e9⟩) (by assumption) ?r8e9
        case y8e9 => (intro w hSw; obtain ⟨s0, s1⟩ := hSw; go_simp; (try with_reducible rfl))
        (try simp only [Act.put]); (try simp only [List.setIfInBounds_toArray]); (try simp only [List.set_cons_succ]); (try simp only [List.set_cons_zero])
        refine wpAnyH_ready (rs := [9, 10]) (by kernel_rfl) (by simp) ?_
        refine AllReadyH.cons (o := { dst := some 103, op := Go.Op.call { callee := Go.Callee.value (Go.Operand.func 14), args := #[Go.Operand.tmp 102], argTypes := #[22] }, type := 37, pos := "law.go:366", after := #[{ on := 8, ground := Go.Ground.data }], guard := none }) rfl (fun Kc hK => ?_) (AllReadyH.cons (o := { dst := some 9, op := Go.Op.alloc 37, type := 0, pos := "law.go:366", after := #[], guard := none }) rfl (fun Kc hK => ?_) AllReadyH.nil)
        · go_simp
          go_at_call 14
          refine Calls.mono (of_any (some ⟨c.A, 0, none⟩) c.N NA _) ?_
          rintro e Vea1 ⟨rfl, hkVea1⟩
          have HKVea1 : Hid (Keeps W13 Vea1 (fun _ => False)) := HKU0.out.trans hkVea1 fun _ _ e => e
          clear hkVea1
          unfold viewV
          go_wp2_with fail
          refine hK.out _ _ (⟨HKVea1.out.cell' c0 id, HKVea1.out.cell' c1 id⟩) (fun hHeld => ?_)
          clear hK Kc
          (try simp only [Act.put]); (try simp only [List.setIfInBounds_toArray]); (try simp only [List.set_cons_succ]); (try simp only [List.set_cons_zero])
          obtain ⟨Vea2, hVea2⟩ : ∃ V, Vea1.alloc (.cells #[.slice none 0 0, .int .i64 0, .pointer none] 37) = V := ⟨_, rfl⟩
          obtain ⟨X, hX⟩ : ∃ X, Vea1.heap.size = X := ⟨_, rfl⟩
          have hkVea2 : Keeps Vea1 Vea2 (fun _ => False) := by rw [← hVea2]; exact (Keeps.refl _ _).alloc _
          have HKVea2 : Hid (Keeps W13 Vea2 (fun _ => False)) := HKVea1.out.trans hkVea2 fun _ _ e => e
          have HRXVea2 : Hid (Vea2.heap[X]? = some (.cells #[.slice none 0 0, .int .i64 0, .pointer none] 37 (0, 0))) := by rw [← hVea2, ← hX]; exact heap_alloc_new _ _
          have HZX : Hid (W13.heap.size ≤ X) := by rw [← hX]; exact HKVea1.out.size
          clear hkVea2
          refine wpAnyH_ready (rs := [10]) (by kernel_rfl) (by simp) ?_
          refine AllReadyH.cons (o := { dst := some 9, op := Go.Op.alloc 37, type := 0, pos := "law.go:366", after := #[], guard := none }) rfl (fun Kc hK => ?_) AllReadyH.nil
          go_simp
          refine hK.out _ _ (⟨HKVea2.out.cell' c0 id, HKVea2.out.cell' c1 id⟩) (fun hHeld => ?_)
          clear hK Kc
          (try simp only [Act.put]); (try simp only [List.setIfInBounds_toArray]); (try simp only [List.set_cons_succ]); (try simp only [List.set_cons_zero])
          clear hVea2 hX
          obtain ⟨Vea3, hVea3⟩ : ∃ V, (((Vea2.setCell ⟨X, 0, none⟩ (.slice (some ⟨c.A, 0, none⟩) c.N NA)).setCell ⟨X, 1, none⟩ (.int .i64 0)).setCell ⟨X, 2, none⟩ (.pointer none)) = V := ⟨_, rfl⟩
          have cX0 := cell_of_row Vea2 X 0 _ _ _ HRXVea2.out
          have fX0 : Vea2.frozen? ⟨X, 0, none⟩ = false := frozen_of_row Vea2 X 0 _ _ HRXVea2.out
          simp at cX0
          have cX1 := cell_of_row Vea2 X 1 _ _ _ HRXVea2.out
          have fX1 : Vea2.frozen? ⟨X, 1, none⟩ = false := frozen_of_row Vea2 X 1 _ _ HRXVea2.out
          simp at cX1
          have cX2 := cell_of_row Vea2 X 2 _ _ _ HRXVea2.out
          have fX2 : Vea2.frozen? ⟨X, 2, none⟩ = false := frozen_of_row Vea2 X 2 _ _ HRXVea2.out
          simp at cX2
          have hkVea3 : Keeps Vea2 Vea3 (fun b => b = X) := by rw [← hVea3]; exact ((((Keeps.refl Vea2 (fun b => b = X)).setCell (p := ⟨X, 0, none⟩) (fun _ => rfl) _).setCell (p := ⟨X, 1, none⟩) (fun _ => rfl) _).setCell (p := ⟨X, 2, none⟩) (fun _ => rfl) _)
          have HRXVea3 : Hid (Vea3.heap[X]? = some (.cells #[.slice (some ⟨c.A, 0, none⟩) c.N NA, .int .i64 0, .pointer none] 37 (0, 0))) := by rw [← hVea3]; exact (OwnRow.set (OwnRow.set (OwnRow.set (show OwnRow Vea2 X 37 _ from HRXVea2.out) 0 _) 1 _) 2 _)
          have HKVea3 : Hid (Keeps W13 Vea3 (fun _ => False)) := HKVea2.out.trans hkVea3 fun b hb e => by have := HZX.out; omega
          clear hkVea3
          refine wpAnyH_ready (rs := [11]) (by kernel_rfl) (by simp) ?_
          refine AllReadyH.cons (o := { dst := none, op := Go.Op.store 37 (Go.Operand.tmp 9) (Go.Operand.tmp 103), type := 0, pos := "law.go:366", after := #[{ on := 10, ground := Go.Ground.data }, { on := 9, ground := Go.Ground.data }, { on := 9, ground := Go.Ground.chain }, { on := 0, ground := Go.Ground.phase }, { on := 1, ground := Go.Ground.phase }, { on := 2, ground := Go.Ground.phase }, { on := 3, ground := Go.Ground.phase }, { on := 4, ground := Go.Ground.phase }, { on := 5, ground := Go.Ground.phase }, { on := 6, ground := Go.Ground.phase }, { on := 7, ground := Go.Ground.phase }, { on := 8, ground := Go.Ground.phase }, { on := 9, ground := Go.Ground.phase }, { on := 10, ground := Go.Ground.phase }], guard := none }) rfl (fun Kc hK => ?_) AllReadyH.nil
          go_simp
          refine hK.out _ _ (⟨HKVea3.out.cell' c0 id, HKVea3.out.cell' c1 id⟩) (fun hHeld => ?_)
          clear hK Kc
          (try simp only [Act.put]); (try simp only [List.setIfInBounds_toArray]); (try simp only [List.set_cons_succ]); (try simp only [List.set_cons_zero])
          clear cX0 fX0 cX1 fX1 cX2 fX2 hVea3
          refine wpAnyH_done (by kernel_rfl) ?_ _
          clear hHeld
          exact key X Vea3 ⟨HRXVea3.out, HKVea3.out, HZX.out⟩
        · obtain ⟨Veb1, hVeb1⟩ : ∃ V, U0.alloc (.cells #[.slice none 0 0, .int .i64 0, .pointer none] 37) = V := ⟨_, rfl⟩
          obtain ⟨X, hX⟩ : ∃ X, U0.heap.size = X := ⟨_, rfl⟩
          have hkVeb1 : Keeps U0 Veb1 (fun _ => False) := by rw [← hVeb1]; exact (Keeps.refl _ _).alloc _
          have HKVeb1 : Hid (Keeps W13 Veb1 (fun _ => False)) := HKU0.out.trans hkVeb1 fun _ _ e => e
          have HRXVeb1 : Hid (Veb1.heap[X]? = some (.cells #[.slice none 0 0, .int .i64 0, .pointer none] 37 (0, 0))) := by rw [← hVeb1, ← hX]; exact heap_alloc_new _ _
          have HZX : Hid (W13.heap.size ≤ X) := by rw [← hX]; exact HKU0.out.size
          clear hkVeb1
          go_simp
          refine hK.out _ _ (⟨HKVeb1.out.cell' c0 id, HKVeb1.out.cell' c1 id⟩) (fun hHeld => ?_)
          clear hK Kc
          (try simp only [Act.put]); (try simp only [List.setIfInBounds_toArray]); (try simp only [List.set_cons_succ]); (try simp only [List.set_cons_zero])
          clear hVeb1 hX
          refine wpAnyH_ready (rs := [9]) (by kernel_rfl) (by simp) ?_
          refine AllReadyH.cons (o := { dst := some 103, op := Go.Op.call { callee := Go.Callee.value (Go.Operand.func 14), args := #[Go.Operand.tmp 102], argTypes := #[22] }, type := 37, pos := "law.go:366", after := #[{ on := 8, ground := Go.Ground.data }], guard := none }) rfl (fun Kc hK => ?_) AllReadyH.nil
          go_simp
          go_at_call 14
          refine Calls.mono (of_any (some ⟨c.A, 0, none⟩) c.N NA _) ?_
          rintro e Veb2 ⟨rfl, hkVeb2⟩
          have HRXVeb2 : Hid (Veb2.heap[X]? = some (.cells #[.slice none 0 0, .int .i64 0, .pointer none] 37 (0, 0))) := hkVeb2.row HRXVeb1.out id
          have HKVeb2 : Hid (Keeps W13 Veb2 (fun _ => False)) := HKVeb1.out.trans hkVeb2 fun _ _ e => e
          clear hkVeb2
          unfold viewV
          go_wp2_with fail
          refine hK.out _ _ (⟨HKVeb2.out.cell' c0 id, HKVeb2.out.cell' c1 id⟩) (fun hHeld => ?_)
          clear hK Kc
          (try simp only [Act.put]); (try simp only [List.setIfInBounds_toArray]); (try simp only [List.set_cons_succ]); (try simp only [List.set_cons_zero])
          obtain ⟨Veb3, hVeb3⟩ : ∃ V, (((Veb2.setCell ⟨X, 0, none⟩ (.slice (some ⟨c.A, 0, none⟩) c.N NA)).setCell ⟨X, 1, none⟩ (.int .i64 0)).setCell ⟨X, 2, none⟩ (.pointer none)) = V := ⟨_, rfl⟩
          have cX0 := cell_of_row Veb2 X 0 _ _ _ HRXVeb2.out
          have fX0 : Veb2.frozen? ⟨X, 0, none⟩ = false := frozen_of_row Veb2 X 0 _ _ HRXVeb2.out
          simp at cX0
          have cX1 := cell_of_row Veb2 X 1 _ _ _ HRXVeb2.out
          have fX1 : Veb2.frozen? ⟨X, 1, none⟩ = false := frozen_of_row Veb2 X 1 _ _ HRXVeb2.out
          simp at cX1
          have cX2 := cell_of_row Veb2 X 2 _ _ _ HRXVeb2.out
          have fX2 : Veb2.frozen? ⟨X, 2, none⟩ = false := frozen_of_row Veb2 X 2 _ _ HRXVeb2.out
          simp at cX2
          have hkVeb3 : Keeps Veb2 Veb3 (fun b => b = X) := by rw [← hVeb3]; exact ((((Keeps.refl Veb2 (fun b => b = X)).setCell (p := ⟨X, 0, none⟩) (fun _ => rfl) _).setCell (p := ⟨X, 1, none⟩) (fun _ => rfl) _).setCell (p := ⟨X, 2, none⟩) (fun _ => rfl) _)
          have HRXVeb3 : Hid (Veb3.heap[X]? = some (.cells #[.slice (some ⟨c.A, 0, none⟩) c.N NA, .int .i64 0, .pointer none] 37 (0, 0))) := by rw [← hVeb3]; exact (OwnRow.set (OwnRow.set (OwnRow.set (show OwnRow Veb2 X 37 _ from HRXVeb2.out) 0 _) 1 _) 2 _)
          have HKVeb3 : Hid (Keeps W13 Veb3 (fun _ => False)) := HKVeb2.out.trans hkVeb3 fun b hb e => by have := HZX.out; omega
          clear hkVeb3
          refine wpAnyH_ready (rs := [11]) (by kernel_rfl) (by simp) ?_
          refine AllReadyH.cons (o := { dst := none, op := Go.Op.store 37 (Go.Operand.tmp 9) (Go.Operand.tmp 103), type := 0, pos := "law.go:366", after := #[{ on := 10, ground := Go.Ground.data }, { on := 9, ground := Go.Ground.data }, { on := 9, ground := Go.Ground.chain }, { on := 0, ground := Go.Ground.phase }, { on := 1, ground := Go.Ground.phase }, { on := 2, ground := Go.Ground.phase }, { on := 3, ground := Go.Ground.phase }, { on := 4, ground := Go.Ground.phase }, { on := 5, ground := Go.Ground.phase }, { on := 6, ground := Go.Ground.phase }, { on := 7, ground := Go.Ground.phase }, { on := 8, ground := Go.Ground.phase }, { on := 9, ground := Go.Ground.phase }, { on := 10, ground := Go.Ground.phase }], guard := none }) rfl (fun Kc hK => ?_) AllReadyH.nil
          go_simp
          refine hK.out _ _ (⟨HKVeb3.out.cell' c0 id, HKVeb3.out.cell' c1 id⟩) (fun hHeld => ?_)
          clear hK Kc
          (try simp only [Act.put]); (try simp only [List.setIfInBounds_toArray]); (try simp only [List.set_cons_succ]); (try simp only [List.set_cons_zero])
          clear cX0 fX0 cX1 fX1 cX2 fX2 hVeb3
          refine wpAnyH_done (by kernel_rfl) ?_ _
          clear hHeld
          exact key X Veb3 ⟨HRXVeb3.out, HKVeb3.out, HZX.out⟩
      rintro X9 W14 ⟨h1, h2, h3⟩
      have HR9 : Hid (W14.heap[X9]? = _ ∧ ∀ i, ¬ ft c g2 i X9) := ⟨h1, HG13.out.inv.out h3⟩
      have HG14 := hidM (HG13.out.trans (HG13.out.inv.rest0 h2) (fun _ f => f.elim))
      replace c0 := h2.cell' c0 id
      replace c1 := h2.cell' c1 id
      clear h1 h2 h3 HG13
      go_wp2_with fail
      refine' share1 (fun (X : Nat) (w' : World) => w'.heap[X]? = some (.cells #[.slice (some ⟨c.A, 0, none⟩) c.N NA, .int .i64 0] 91 (0, 0)) ∧ Keeps W14 w' (fun _ => False) ∧ W14.heap.size ≤ X) ?_ ?_
      rotate_left 1
      · intro key
        obtain ⟨U0, hU0⟩ : ∃ U0, W14.drew = U0 := ⟨_, rfl⟩
        have HKU0 : Hid (Keeps W14 U0 (fun _ => False)) := by rw [← hU0]; exact (Keeps.refl _ _).drew
        refine wp_region_held_drew (S := fun w' => w'.cell? ⟨c.m, 0, none⟩ = some (.slice (some ⟨c.A, 0, none⟩) NA NA) ∧ w'.cell? ⟨c.m, 1, none⟩ = some (.int .i64 c.N)) (by kernel_rfl) (by rw [hU0]; exact ⟨HKU0.out.cell' c0 id, HKU0.out.cell' c1 id⟩) (fun hHeld => ?_)
        rw [hU0] at hHeld ⊢
        clear hU0
        refine wpAnyH_take (i := 0) (oi := { dst := some 104, op := Go.Op.move (Go.Operand.tmp 4), type := 24, pos := "law.go:367", after := #[], guard := none }) (v := ?v0f1) rfl (by kernel_rfl) (by kernel_rfl) (by kernel_rfl) (fun _ _ _ h => h) (Or.inl ⟨by rfl, ?y0f1⟩) (by assumption) ?r0f1
        case y0f1 => (intro w hSw; obtain ⟨s0, s1⟩ := hSw; go_simp; (try with_reducible rfl))
        (try simp only [Act.put]); (try simp only [List.setIfInBounds_toArray]); (try simp only [List.set_cons_succ]); (try simp only [List.set_cons_zero])
        refine wpAnyH_take (i := 1) (oi := { dst := some 105, op := Go.Op.nilCheck (Go.Operand.tmp 104), type := 0, pos := "law.go:367", after := #[{ on := 0, ground := Go.Ground.data }], guard := none }) (v := ?v1f2) rfl (by kernel_rfl) (by kernel_rfl) (by kernel_rfl) (fun _ _ _ h => h) (Or.inl ⟨by rfl, ?y1f2⟩) (by assumption) ?r1f2
        case y1f2 => (intro w hSw; obtain ⟨s0, s1⟩ := hSw; go_simp; (try with_reducible rfl))
        (try simp only [Act.put]); (try simp only [List.setIfInBounds_toArray]); (try simp only [List.set_cons_succ]); (try simp only [List.set_cons_zero])
        refine wpAnyH_take (i := 2) (oi := { dst := some 106, op := Go.Op.fieldAddr 87 (Go.Operand.tmp 105) 0, type := 0, pos := "law.go:367", after := #[{ on := 1, ground := Go.Ground.data }], guard := none }) (v := ?v2f3) rfl (by kernel_rfl) (by kernel_rfl) (by kernel_rfl) (fun _ _ _ h => h) (Or.inl ⟨by rfl, ?y2f3⟩) (by assumption) ?r2f3
        case y2f3 => (intro w hSw; obtain ⟨s0, s1⟩ := hSw; go_simp; (try with_reducible rfl))
        (try simp only [Act.put]); (try simp only [List.setIfInBounds_toArray]); (try simp only [List.set_cons_succ]); (try simp only [List.set_cons_zero])
        refine wpAnyH_take (i := 3) (oi := { dst := some 107, op := Go.Op.load 22 (Go.Operand.tmp 106), type := 22, pos := "law.go:367", after := #[{ on := 2, ground := Go.Ground.data }], guard := none }) (v := ?v3f4) rfl (by kernel_rfl) (by kernel_rfl) (by kernel_rfl) (fun _ _ _ h => h) (Or.inl ⟨by rfl, ?y3f4⟩) (by assumption) ?r3f4
        case y3f4 => (intro w hSw; obtain ⟨s0, s1⟩ := hSw; go_simp; (try with_reducible rfl))
        (try simp only [Act.put]); (try simp only [List.setIfInBounds_toArray]); (try simp only [List.set_cons_succ]); (try simp only [List.set_cons_zero])
        refine wpAnyH_take (i := 4) (oi := { dst := some 108, op := Go.Op.move (Go.Operand.tmp 4), type := 24, pos := "law.go:367", after := #[], guard := none }) (v := ?v4f5) rfl (by kernel_rfl) (by kernel_rfl) (by kernel_rfl) (fun _ _ _ h => h) (Or.inl ⟨by rfl, ?y4f5⟩) (by assumption) ?r4f5
        case y4f5 => (intro w hSw; obtain ⟨s0, s1⟩ := hSw; go_simp; (try with_reducible rfl))
        (try simp only [Act.put]); (try simp only [List.setIfInBounds_toArray]); (try simp only [List.set_cons_succ]); (try simp only [List.set_cons_zero])
        refine wpAnyH_take (i := 5) (oi := { dst := some 109, op := Go.Op.nilCheck (Go.Operand.tmp 108), type := 0, pos := "law.go:367", after := #[{ on := 4, ground := Go.Ground.data }], guard := none }) (v := ?v5f6) rfl (by kernel_rfl) (by kernel_rfl) (by kernel_rfl) (fun _ _ _ h => h) (Or.inl ⟨by rfl, ?y5f6⟩) (by assumption) ?r5f6
        case y5f6 => (intro w hSw; obtain ⟨s0, s1⟩ := hSw; go_simp; (try with_reducible rfl))
        (try simp only [Act.put]); (try simp only [List.setIfInBounds_toArray]); (try simp only [List.set_cons_succ]); (try simp only [List.set_cons_zero])
        refine wpAnyH_take (i := 6) (oi := { dst := some 110, op := Go.Op.fieldAddr 87 (Go.Operand.tmp 109) 1, type := 0, pos := "law.go:367", after := #[{ on := 5, ground := Go.Ground.data }], guard := none }) (v := ?v6f7) rfl (by kernel_rfl) (by kernel_rfl) (by kernel_rfl) (fun _ _ _ h => h) (Or.inl ⟨by rfl, ?y6f7⟩) (by assumption) ?r6f7
        case y6f7 => (intro w hSw; obtain ⟨s0, s1⟩ := hSw; go_simp; (try with_reducible rfl))
        (try simp only [Act.put]); (try simp only [List.setIfInBounds_toArray]); (try simp only [List.set_cons_succ]); (try simp only [List.set_cons_zero])
        refine wpAnyH_take (i := 7) (oi := { dst := some 111, op := Go.Op.load 3 (Go.Operand.tmp 110), type := 3, pos := "law.go:367", after := #[{ on := 6, ground := Go.Ground.data }], guard := none }) (v := ?v7f8) rfl (by kernel_rfl) (by kernel_rfl) (by kernel_rfl) (fun _ _ _ h => h) (Or.inl ⟨by rfl, ?y7f8⟩) (by assumption) ?r7f8
        case y7f8 => (intro w hSw; obtain ⟨s0, s1⟩ := hSw; go_simp; (try with_reducible rfl))
        (try simp only [Act.put]); (try simp only [List.setIfInBounds_toArray]); (try simp only [List.set_cons_succ]); (try simp only [List.set_cons_zero])
        refine wpAnyH_take (i := 8) (oi := { dst := some 112, op := Go.Op.slice 22 (Go.Operand.tmp 107) none (some (Go.Operand.tmp 111)) none, type := 22, pos := "law.go:367", after := #[{ on := 3, ground := Go.Ground.data }, { on := 7, ground := Go.Ground.data }], guard := none }) (v := ?v8f9) rfl (by kernel_rfl) (by kernel_rfl) (by kernel_rfl) (fun _ _ _ h => h) (Or.inl ⟨by rfl, ?y8f9⟩) (by assumption) ?r8f9
        case y8f9 => (intro w hSw; obtain ⟨s0, s1⟩ := hSw; go_simp; (try with_reducible rfl))
        (try simp only [Act.put]); (try simp only [List.setIfInBounds_toArray]); (try simp only [List.set_cons_succ]); (try simp only [List.set_cons_zero])
        refine wpAnyH_take (i := 9) (oi := { dst := some 113, op := Go.Op.build 91 #[(0, Go.Operand.tmp 112)], type := 91, pos := "law.go:367", after := #[{ on := 8, ground := Go.Ground.data }], guard := none }) (v := ?v9f10) rfl (by kernel_rfl) (by kernel_rfl) (by kernel_rfl) (fun _ _ _ h => h) (Or.inl ⟨by rfl, ?y9f10⟩) (by assumption) ?r9f10
        case y9f10 => (intro w hSw; obtain ⟨s0, s1⟩ := hSw; go_simp; (try with_reducible rfl))
        (try simp only [Act.put]); (try simp only [List.setIfInBounds_toArray]); (try simp only [List.set_cons_succ]); (try simp only [List.set_cons_zero])
        obtain ⟨Vf1, hVf1⟩ : ∃ V, U0.alloc (.cells #[.slice none 0 0, .int .i64 0] 91) = V := ⟨_, rfl⟩
        obtain ⟨X, hX⟩ : ∃ X, U0.heap.size = X := ⟨_, rfl⟩
        have hkVf1 : Keeps U0 Vf1 (fun _ => False) := by rw [← hVf1]; exact (Keeps.refl _ _).alloc _
        have HKVf1 : Hid (Keeps W14 Vf1 (fun _ => False)) := HKU0.out.trans hkVf1 fun _ _ e => e
        have HRXVf1 : Hid (Vf1.heap[X]? = some (.cells #[.slice none 0 0, .int .i64 0] 91 (0, 0))) := by rw [← hVf1, ← hX]; exact heap_alloc_new _ _
        have HZX : Hid (W14.heap.size ≤ X) := by rw [← hX]; exact HKU0.out.size
        clear hkVf1
        refine wpAnyH_ready (rs := [10]) (by kernel_rfl) (by simp) ?_
        refine AllReadyH.cons (o := { dst := some 10, op := Go.Op.alloc 91, type := 0, pos := "law.go:367", after := #[], guard := none }) rfl (fun Kc hK => ?_) AllReadyH.nil
        go_simp
        refine hK.out _ _ (⟨HKVf1.out.cell' c0 id, HKVf1.out.cell' c1 id⟩) (fun hHeld => ?_)
        clear hK Kc
        (try simp only [Act.put]); (try simp only [List.setIfInBounds_toArray]); (try simp only [List.set_cons_succ]); (try simp only [List.set_cons_zero])
        clear hVf1 hX
        obtain ⟨Vf2, hVf2⟩ : ∃ V, ((Vf1.setCell ⟨X, 0, none⟩ (.slice (some ⟨c.A, 0, none⟩) c.N NA)).setCell ⟨X, 1, none⟩ (.int .i64 0)) = V := ⟨_, rfl⟩
        have cX0 := cell_of_row Vf1 X 0 _ _ _ HRXVf1.out
        have fX0 : Vf1.frozen? ⟨X, 0, none⟩ = false := frozen_of_row Vf1 X 0 _ _ HRXVf1.out
        simp at cX0
        have cX1 := cell_of_row Vf1 X 1 _ _ _ HRXVf1.out
        have fX1 : Vf1.frozen? ⟨X, 1, none⟩ = false := frozen_of_row Vf1 X 1 _ _ HRXVf1.out
        simp at cX1
        have hkVf2 : Keeps Vf1 Vf2 (fun b => b = X) := by rw [← hVf2]; exact (((Keeps.refl Vf1 (fun b => b = X)).setCell (p := ⟨X, 0, none⟩) (fun _ => rfl) _).setCell (p := ⟨X, 1, none⟩) (fun _ => rfl) _)
        have HRXVf2 : Hid (Vf2.heap[X]? = some (.cells #[.slice (some ⟨c.A, 0, none⟩) c.N NA, .int .i64 0] 91 (0, 0))) := by rw [← hVf2]; exact (OwnRow.set (OwnRow.set (show OwnRow Vf1 X 91 _ from HRXVf1.out) 0 _) 1 _)
        have HKVf2 : Hid (Keeps W14 Vf2 (fun _ => False)) := HKVf1.out.trans hkVf2 fun b hb e => by have := HZX.out; omega
        clear hkVf2
        refine wpAnyH_ready (rs := [11]) (by kernel_rfl) (by simp) ?_
        refine AllReadyH.cons (o := { dst := none, op := Go.Op.store 91 (Go.Operand.tmp 10) (Go.Operand.tmp 113), type := 0, pos := "law.go:367", after := #[{ on := 10, ground := Go.Ground.data }, { on := 9, ground := Go.Ground.data }, { on := 0, ground := Go.Ground.phase }, { on := 1, ground := Go.Ground.phase }, { on := 2, ground := Go.Ground.phase }, { on := 3, ground := Go.Ground.phase }, { on := 4, ground := Go.Ground.phase }, { on := 5, ground := Go.Ground.phase }, { on := 6, ground := Go.Ground.phase }, { on := 7, ground := Go.Ground.phase }, { on := 8, ground := Go.Ground.phase }, { on := 9, ground := Go.Ground.phase }, { on := 10, ground := Go.Ground.phase }], guard := none }) rfl (fun Kc hK => ?_) AllReadyH.nil
        go_simp
        refine hK.out _ _ (⟨HKVf2.out.cell' c0 id, HKVf2.out.cell' c1 id⟩) (fun hHeld => ?_)
        clear hK Kc
        (try simp only [Act.put]); (try simp only [List.setIfInBounds_toArray]); (try simp only [List.set_cons_succ]); (try simp only [List.set_cons_zero])
        clear cX0 fX0 cX1 fX1 hVf2
        refine wpAnyH_done (by kernel_rfl) ?_ _
        clear hHeld
        exact key X Vf2 ⟨HRXVf2.out, HKVf2.out, HZX.out⟩
      rintro X10 W15 ⟨h1, h2, h3⟩
      have HR10 : Hid (W15.heap[X10]? = _ ∧ ∀ i, ¬ ft c g2 i X10) := ⟨h1, HG14.out.inv.out h3⟩
      replace HR9 := hidM (And.intro (h2.row HR9.out.1 id) HR9.out.2)
      have HG15 := hidM (HG14.out.trans (HG14.out.inv.rest0 h2) (fun _ f => f.elim))
      clear h1 h2 h3 HG14 c0 c1
      have HS2 : Hid (g2.S = []) := hidM (by rw [HGG2.out]; show g1.S = []; rw [HGG1.out]; rfl)
      have hSl : g2.S.length ≤ 3 := by rw [HS2.out]; simp
      obtain ⟨bX90, bX91, bX92⟩ := boxCells3 HR9.out.1
      obtain ⟨bX100, bX101⟩ := boxCells2 HR10.out.1
      have b4 : W15.cell? ⟨c.m, 4, none⟩ = some (.pointer (some ⟨c.q1, 0, none⟩)) := HG15.out.inv.cell rfl
      have c2 : W15.cell? ⟨c.m, 2, none⟩ = some g2.v2 := HG15.out.inv.cell rfl
      have HOl : Hid (W15.ownsRow 0 93 6 g2.v2 g2.S.length (g2.S.flatMap (snC c))) := HG15.out.inv.cm .seen
      go_wp2_with fail
      refine' share3 (fun (Y : Nat) (uo : Option Addr) (uc : Nat) (w' : World) => ∃ v', Go c NoF W15 g2 w' { g2 with v2 := v', S := g2.S ++ [⟨some ⟨c.A, 0, none⟩, c.N, NA, 0, some ⟨c.A, 0, none⟩, NA, 1⟩] }) ?_ ?_
      rotate_left 1
      · intro key
        obtain ⟨U0, hU0⟩ : ∃ U0, W15.drew = U0 := ⟨_, rfl⟩
        have HKU0 : Hid (Keeps W15 U0 (fun _ => False)) := by rw [← hU0]; exact (Keeps.refl _ _).drew
        refine wp_region_held_drew (S := fun w' => w'.cell? ⟨X9, 0, none⟩ = some (.slice (some ⟨c.A, 0, none⟩) c.N NA) ∧ w'.cell? ⟨X9, 1, none⟩ = some (.int .i64 0) ∧ w'.cell? ⟨X9, 2, none⟩ = some (.pointer none) ∧ w'.cell? ⟨X10, 0, none⟩ = some (.slice (some ⟨c.A, 0, none⟩) c.N NA) ∧ w'.cell? ⟨X10, 1, none⟩ = some (.int .i64 0) ∧ w'.cell? ⟨c.m, 4, none⟩ = some (.pointer (some ⟨c.q1, 0, none⟩))) (by kernel_rfl) (by rw [hU0]; exact ⟨HKU0.out.cell' bX90 id, HKU0.out.cell' bX91 id, HKU0.out.cell' bX92 id, HKU0.out.cell' bX100 id, HKU0.out.cell' bX101 id, HKU0.out.cell' b4 id⟩) (fun hHeld => ?_)
        rw [hU0] at hHeld ⊢
        clear hU0
        have c2u : U0.cell? ⟨c.m, 2, none⟩ = some g2.v2 := HKU0.out.cell' c2 id
        refine wpAnyH_take (i := 0) (oi := { dst := some 114, op := Go.Op.move (Go.Operand.tmp 4), type := 24, pos := "law.go:368", after := #[], guard := none }) (v := ?v0g161) rfl (by kernel_rfl) (by kernel_rfl) (by kernel_rfl) (fun _ _ _ h => h) (Or.inl ⟨by rfl, ?y0g161⟩) (by assumption) ?r0g161
        case y0g161 => (intro w hSw; obtain ⟨s0, s1, s2, s3, s4, s5⟩ := hSw; go_simp; (try with_reducible rfl))
        (try simp only [Act.put]); (try simp only [List.setIfInBounds_toArray]); (try simp only [List.set_cons_succ]); (try simp only [List.set_cons_zero])
        refine wpAnyH_take (i := 1) (oi := { dst := some 115, op := Go.Op.move (Go.Operand.tmp 4), type := 24, pos := "law.go:368", after := #[], guard := none }) (v := ?v1g162) rfl (by kernel_rfl) (by kernel_rfl) (by kernel_rfl) (fun _ _ _ h => h) (Or.inl ⟨by rfl, ?y1g162⟩) (by assumption) ?r1g162
        case y1g162 => (intro w hSw; obtain ⟨s0, s1, s2, s3, s4, s5⟩ := hSw; go_simp; (try with_reducible rfl))
        (try simp only [Act.put]); (try simp only [List.setIfInBounds_toArray]); (try simp only [List.set_cons_succ]); (try simp only [List.set_cons_zero])
        refine wpAnyH_take (i := 2) (oi := { dst := some 116, op := Go.Op.nilCheck (Go.Operand.tmp 115), type := 0, pos := "law.go:368", after := #[{ on := 1, ground := Go.Ground.data }], guard := none }) (v := ?v2g163) rfl (by kernel_rfl) (by kernel_rfl) (by kernel_rfl) (fun _ _ _ h => h) (Or.inl ⟨by rfl, ?y2g163⟩) (by assumption) ?r2g163
        case y2g163 => (intro w hSw; obtain ⟨s0, s1, s2, s3, s4, s5⟩ := hSw; go_simp; (try with_reducible rfl))
        (try simp only [Act.put]); (try simp only [List.setIfInBounds_toArray]); (try simp only [List.set_cons_succ]); (try simp only [List.set_cons_zero])
        refine wpAnyH_take (i := 3) (oi := { dst := some 117, op := Go.Op.fieldAddr 87 (Go.Operand.tmp 116) 2, type := 0, pos := "law.go:368", after := #[{ on := 2, ground := Go.Ground.data }], guard := none }) (v := ?v3g164) rfl (by kernel_rfl) (by kernel_rfl) (by kernel_rfl) (fun _ _ _ h => h) (Or.inl ⟨by rfl, ?y3g164⟩) (by assumption) ?r3g164
        case y3g164 => (intro w hSw; obtain ⟨s0, s1, s2, s3, s4, s5⟩ := hSw; go_simp; (try with_reducible rfl))
        (try simp only [Act.put]); (try simp only [List.setIfInBounds_toArray]); (try simp only [List.set_cons_succ]); (try simp only [List.set_cons_zero])
        refine wpAnyH_take (i := 5) (oi := { dst := some 119, op := Go.Op.load 37 (Go.Operand.tmp 9), type := 37, pos := "law.go:368", after := #[], guard := none }) (v := ?v5g165) rfl (by kernel_rfl) (by kernel_rfl) (by kernel_rfl) (fun _ _ _ h => h) (Or.inl ⟨by rfl, ?y5g165⟩) (by assumption) ?r5g165
        case y5g165 => (intro w hSw; obtain ⟨s0, s1, s2, s3, s4, s5⟩ := hSw; go_simp; (try with_reducible rfl))
        (try simp only [Act.put]); (try simp only [List.setIfInBounds_toArray]); (try simp only [List.set_cons_succ]); (try simp only [List.set_cons_zero])
        refine wpAnyH_take (i := 6) (oi := { dst := some 120, op := Go.Op.move (Go.Operand.tmp 4), type := 24, pos := "law.go:368", after := #[], guard := none }) (v := ?v6g166) rfl (by kernel_rfl) (by kernel_rfl) (by kernel_rfl) (fun _ _ _ h => h) (Or.inl ⟨by rfl, ?y6g166⟩) (by assumption) ?r6g166
        case y6g166 => (intro w hSw; obtain ⟨s0, s1, s2, s3, s4, s5⟩ := hSw; go_simp; (try with_reducible rfl))
        (try simp only [Act.put]); (try simp only [List.setIfInBounds_toArray]); (try simp only [List.set_cons_succ]); (try simp only [List.set_cons_zero])
        refine wpAnyH_take (i := 7) (oi := { dst := some 121, op := Go.Op.nilCheck (Go.Operand.tmp 120), type := 0, pos := "law.go:368", after := #[{ on := 6, ground := Go.Ground.data }], guard := none }) (v := ?v7g167) rfl (by kernel_rfl) (by kernel_rfl) (by kernel_rfl) (fun _ _ _ h => h) (Or.inl ⟨by rfl, ?y7g167⟩) (by assumption) ?r7g167
        case y7g167 => (intro w hSw; obtain ⟨s0, s1, s2, s3, s4, s5⟩ := hSw; go_simp; (try with_reducible rfl))
        (try simp only [Act.put]); (try simp only [List.setIfInBounds_toArray]); (try simp only [List.set_cons_succ]); (try simp only [List.set_cons_zero])
        refine wpAnyH_take (i := 8) (oi := { dst := some 122, op := Go.Op.fieldAddr 87 (Go.Operand.tmp 121) 3, type := 0, pos := "law.go:368", after := #[{ on := 7, ground := Go.Ground.data }], guard := none }) (v := ?v8g168) rfl (by kernel_rfl) (by kernel_rfl) (by kernel_rfl) (fun _ _ _ h => h) (Or.inl ⟨by rfl, ?y8g168⟩) (by assumption) ?r8g168
        case y8g168 => (intro w hSw; obtain ⟨s0, s1, s2, s3, s4, s5⟩ := hSw; go_simp; (try with_reducible rfl))
        (try simp only [Act.put]); (try simp only [List.setIfInBounds_toArray]); (try simp only [List.set_cons_succ]); (try simp only [List.set_cons_zero])
        refine wpAnyH_take (i := 9) (oi := { dst := some 123, op := Go.Op.indexAddr 79 (Go.Operand.tmp 122) (Go.Operand.const (Go.Value.int Go.IntKind.i64 1)), type := 0, pos := "law.go:368", after := #[{ on := 8, ground := Go.Ground.data }], guard := none }) (v := ?v9g169) rfl (by kernel_rfl) (by kernel_rfl) (by kernel_rfl) (fun _ _ _ h => h) (Or.inl ⟨by rfl, ?y9g169⟩) (by assumption) ?r9g169
        case y9g169 => (intro w hSw; obtain ⟨s0, s1, s2, s3, s4, s5⟩ := hSw; go_simp; (try with_reducible rfl))
        (try simp only [Act.put]); (try simp only [List.setIfInBounds_toArray]); (try simp only [List.set_cons_succ]); (try simp only [List.set_cons_zero])
        refine wpAnyH_take (i := 10) (oi := { dst := some 124, op := Go.Op.load 34 (Go.Operand.tmp 123), type := 34, pos := "law.go:368", after := #[{ on := 9, ground := Go.Ground.data }], guard := none }) (v := ?v10g1610) rfl (by kernel_rfl) (by kernel_rfl) (by kernel_rfl) (fun _ _ _ h => h) (Or.inl ⟨by rfl, ?y10g1610⟩) (by assumption) ?r10g1610
        case y10g1610 => (intro w hSw; obtain ⟨s0, s1, s2, s3, s4, s5⟩ := hSw; go_simp; (try with_reducible rfl))
        (try simp only [Act.put]); (try simp only [List.setIfInBounds_toArray]); (try simp only [List.set_cons_succ]); (try simp only [List.set_cons_zero])
        refine wpAnyH_take (i := 12) (oi := { dst := some 126, op := Go.Op.load 91 (Go.Operand.tmp 10), type := 91, pos := "law.go:368", after := #[], guard := none }) (v := ?v12g1611) rfl (by kernel_rfl) (by kernel_rfl) (by kernel_rfl) (fun _ _ _ h => h) (Or.inl ⟨by rfl, ?y12g1611⟩) (by assumption) ?r12g1611
        case y12g1611 => (intro w hSw; obtain ⟨s0, s1, s2, s3, s4, s5⟩ := hSw; go_simp; (try with_reducible rfl))
        (try simp only [Act.put]); (try simp only [List.setIfInBounds_toArray]); (try simp only [List.set_cons_succ]); (try simp only [List.set_cons_zero])
        refine wpAnyH_ready (rs := [4, 11]) (by kernel_rfl) (by simp) ?_
        refine AllReadyH.cons (o := { dst := some 118, op := Go.Op.load 78 (Go.Operand.tmp 117), type := 78, pos := "law.go:368", after := #[{ on := 3, ground := Go.Ground.data }], guard := none }) rfl (fun Kc hK => ?_) (AllReadyH.cons (o := { dst := some 125, op := Go.Op.call { callee := Go.Callee.value (Go.Operand.func 15), args := #[Go.Operand.tmp 119, Go.Operand.tmp 124], argTypes := #[37, 34] }, type := 37, pos := "law.go:368", after := #[{ on := 5, ground := Go.Ground.data }, { on := 10, ground := Go.Ground.data }], guard := none }) rfl (fun Kc hK => ?_) AllReadyH.nil)
        · go_simp
          refine hK.out _ _ (⟨HKU0.out.cell' bX90 id, HKU0.out.cell' bX91 id, HKU0.out.cell' bX92 id, HKU0.out.cell' bX100 id, HKU0.out.cell' bX101 id, HKU0.out.cell' b4 id⟩) (fun hHeld => ?_)
          clear hK Kc
          (try simp only [Act.put]); (try simp only [List.setIfInBounds_toArray]); (try simp only [List.set_cons_succ]); (try simp only [List.set_cons_zero])
          refine wpAnyH_ready (rs := [11]) (by kernel_rfl) (by simp) ?_
          refine AllReadyH.cons (o := { dst := some 125, op := Go.Op.call { callee := Go.Callee.value (Go.Operand.func 15), args := #[Go.Operand.tmp 119, Go.Operand.tmp 124], argTypes := #[37, 34] }, type := 37, pos := "law.go:368", after := #[{ on := 5, ground := Go.Ground.data }, { on := 10, ground := Go.Ground.data }], guard := none }) rfl (fun Kc hK => ?_) AllReadyH.nil
          go_simp
          go_at_call 15
          refine Calls.mono (watched_any (some ⟨c.A, 0, none⟩) c.N NA 0 none (some c.q1) _) ?_
          rintro e Vg16a1 ⟨rfl, hkVg16a1⟩
          have HKVg16a1 : Hid (Keeps W15 Vg16a1 (fun _ => False)) := HKU0.out.trans hkVg16a1 fun _ _ e => e
          clear hkVg16a1
          unfold viewV
          go_wp2_with fail
          refine hK.out _ _ (⟨HKVg16a1.out.cell' bX90 id, HKVg16a1.out.cell' bX91 id, HKVg16a1.out.cell' bX92 id, HKVg16a1.out.cell' bX100 id, HKVg16a1.out.cell' bX101 id, HKVg16a1.out.cell' b4 id⟩) (fun hHeld => ?_)
          clear hK Kc
          (try simp only [Act.put]); (try simp only [List.setIfInBounds_toArray]); (try simp only [List.set_cons_succ]); (try simp only [List.set_cons_zero])
          have c2Vg16a1 : Vg16a1.cell? ⟨c.m, 2, none⟩ = some g2.v2 := HKVg16a1.out.cell' c2 id
          refine wpAnyH_take (i := 13) (oi := { dst := some 127, op := Go.Op.build 93 #[(0, Go.Operand.tmp 125), (1, Go.Operand.tmp 126), (2, Go.Operand.const (Go.Value.int Go.IntKind.i64 1))], type := 93, pos := "law.go:368", after := #[{ on := 11, ground := Go.Ground.data }, { on := 12, ground := Go.Ground.data }], guard := none }) (v := ?v13g16a1) rfl (by kernel_rfl) (by kernel_rfl) (by kernel_rfl) (fun _ _ _ h => h) (Or.inl ⟨by rfl, ?y13g16a1⟩) (by assumption) ?r13g16a1
          case y13g16a1 => (intro w hSw; obtain ⟨s0, s1, s2, s3, s4, s5⟩ := hSw; go_simp; (try with_reducible rfl))
          (try simp only [Act.put]); (try simp only [List.setIfInBounds_toArray]); (try simp only [List.set_cons_succ]); (try simp only [List.set_cons_zero])
          obtain ⟨Vg16a2, hVg16a2⟩ : ∃ V, Vg16a1.alloc (.cells #[.slice (some ⟨c.A, 0, none⟩) c.N NA, .int .i64 0, .pointer (some ⟨c.q1, 0, none⟩), .slice (some ⟨c.A, 0, none⟩) c.N NA, .int .i64 0, .int .i64 1] 93) = V := ⟨_, rfl⟩
          obtain ⟨Y, hY⟩ : ∃ X, Vg16a1.heap.size = X := ⟨_, rfl⟩
          have HKVg16a2 : Hid (Keeps W15 Vg16a2 (fun _ => False)) := by rw [← hVg16a2]; exact HKVg16a1.out.alloc _
          have HSr : Hid (Src Try.prog 6 78 (.slice (some ⟨Y, 0, none⟩) 1 1) 1 [.slice (some ⟨c.A, 0, none⟩) c.N NA, .int .i64 0, .pointer (some ⟨c.q1, 0, none⟩), .slice (some ⟨c.A, 0, none⟩) c.N NA, .int .i64 0, .int .i64 1] Vg16a2) := by rw [← hVg16a2, ← hY]; exact src6 _ _ _ _ _ _ _ (by simp [Value.oneCell'])
          have c2v : Vg16a2.cell? ⟨c.m, 2, none⟩ = some g2.v2 := HKVg16a2.out.cell' c2 id
          refine wpAnyH_ready (rs := [14]) (by kernel_rfl) (by simp) ?_
          refine AllReadyH.cons (o := { dst := some 128, op := Go.Op.buildSlice 78 1 #[(0, Go.Operand.tmp 127)], type := 78, pos := "law.go:368", after := #[{ on := 13, ground := Go.Ground.data }], guard := none }) rfl (fun Kc hK => ?_) AllReadyH.nil
          go_simp
          refine hK.out _ _ (⟨HKVg16a2.out.cell' bX90 id, HKVg16a2.out.cell' bX91 id, HKVg16a2.out.cell' bX92 id, HKVg16a2.out.cell' bX100 id, HKVg16a2.out.cell' bX101 id, HKVg16a2.out.cell' b4 id⟩) (fun hHeld => ?_)
          clear hK Kc
          (try simp only [Act.put]); (try simp only [List.setIfInBounds_toArray]); (try simp only [List.set_cons_succ]); (try simp only [List.set_cons_zero])
          clear hVg16a2 hY
          refine wpAnyH_ready (rs := [15]) (by kernel_rfl) (by simp) ?_
          refine AllReadyH.cons (o := { dst := some 129, op := Go.Op.call { callee := Go.Callee.builtin Go.Builtin.append, args := #[Go.Operand.tmp 118, Go.Operand.tmp 128], argTypes := #[78, 78] }, type := 78, pos := "law.go:368", after := #[{ on := 4, ground := Go.Ground.data }, { on := 14, ground := Go.Ground.data }, { on := 11, ground := Go.Ground.chain }], guard := none }) rfl (fun Kc hK => ?_) AllReadyH.nil
          refine step_append_anyN (P := Try.prog) _ rfl (.tmp 118) (.tmp 128) 78 78 rfl 93 (.agg #[.slice none 0 0, .int .i64 0, .pointer none, .slice none 0 0, .int .i64 0, .int .i64 0]) 6 80 Try.underlying78 info93 rfl g2.v2 g2.S.length (g2.S.flatMap (snC c)) rfl (ownN_kept HOl.out HKVg16a2.out fun _ _ => id) (.slice (some ⟨Y, 0, none⟩) 1 1) 1 [.slice (some ⟨c.A, 0, none⟩) c.N NA, .int .i64 0, .pointer (some ⟨c.q1, 0, none⟩), .slice (some ⟨c.A, 0, none⟩) c.N NA, .int .i64 0, .int .i64 1] rfl HSr.out (by omega) (by omega) ?_
          intro v' w7 ha1 ha2 ha3
          obtain ⟨uo, uc, rfl⟩ := ownN_form ha1
          obtain ⟨p1, p2, hrd⟩ := RowDone.grown (w := W15) (off := 2) (by decide) HKVg16a2.out HG15.out.inv.room rfl (fun g' e e2 => absurd (e2 ▸ e) (ownN_ne (by decide) HG15.out.inv.room HOl.out)) ha1 ha2 ha3
          obtain ⟨v2', hgo⟩ := HG15.out.inv.join (s := ⟨some ⟨c.A, 0, none⟩, c.N, NA, 0, some ⟨c.A, 0, none⟩, NA, 1⟩) hrd
          have hgr := Keeps.ofGrown ha2
          have HH7 : Hid (w7.cell? ⟨X9, 0, none⟩ = some (.slice (some ⟨c.A, 0, none⟩) c.N NA) ∧ w7.cell? ⟨X9, 1, none⟩ = some (.int .i64 0) ∧ w7.cell? ⟨X9, 2, none⟩ = some (.pointer none) ∧ w7.cell? ⟨X10, 0, none⟩ = some (.slice (some ⟨c.A, 0, none⟩) c.N NA) ∧ w7.cell? ⟨X10, 1, none⟩ = some (.int .i64 0) ∧ w7.cell? ⟨c.m, 4, none⟩ = some (.pointer (some ⟨c.q1, 0, none⟩))) := ⟨hgr.cell' (HKVg16a2.out.cell' bX90 id) (fun e => HR9.out.2 .seen e), hgr.cell' (HKVg16a2.out.cell' bX91 id) (fun e => HR9.out.2 .seen e), hgr.cell' (HKVg16a2.out.cell' bX92 id) (fun e => HR9.out.2 .seen e), hgr.cell' (HKVg16a2.out.cell' bX100 id) (fun e => HR10.out.2 .seen e), hgr.cell' (HKVg16a2.out.cell' bX101 id) (fun e => HR10.out.2 .seen e), hgr.cell' (HKVg16a2.out.cell' b4 id) (fun e => by have h : Ix.seen = Ix.room := HG15.out.inv.ap _ _ c.m e rfl; cases h)⟩
          obtain ⟨zX90, zX91, zX92⟩ := boxCells3 (hgo.box HR9.out.1 HR9.out.2).1
          obtain ⟨zX100, zX101⟩ := boxCells2 (hgo.box HR10.out.1 HR10.out.2).1
          have HH8 : Hid ((w7.setCell ⟨c.m, 2, none⟩ (.slice uo (g2.S.length + 1) uc)).cell? ⟨X9, 0, none⟩ = some (.slice (some ⟨c.A, 0, none⟩) c.N NA) ∧ (w7.setCell ⟨c.m, 2, none⟩ (.slice uo (g2.S.length + 1) uc)).cell? ⟨X9, 1, none⟩ = some (.int .i64 0) ∧ (w7.setCell ⟨c.m, 2, none⟩ (.slice uo (g2.S.length + 1) uc)).cell? ⟨X9, 2, none⟩ = some (.pointer none) ∧ (w7.setCell ⟨c.m, 2, none⟩ (.slice uo (g2.S.length + 1) uc)).cell? ⟨X10, 0, none⟩ = some (.slice (some ⟨c.A, 0, none⟩) c.N NA) ∧ (w7.setCell ⟨c.m, 2, none⟩ (.slice uo (g2.S.length + 1) uc)).cell? ⟨X10, 1, none⟩ = some (.int .i64 0) ∧ (w7.setCell ⟨c.m, 2, none⟩ (.slice uo (g2.S.length + 1) uc)).cell? ⟨c.m, 4, none⟩ = some (.pointer (some ⟨c.q1, 0, none⟩))) := ⟨zX90, zX91, zX92, zX100, zX101, hgo.inv.cell rfl⟩
          have HGO := hidM hgo
          clear zX90 zX91 zX92 zX100 zX101 ha1 ha2 ha3 hrd hgo hgr
          refine hK.out _ _ HH7.out (fun hHeld => ?_)
          clear hK Kc
          (try simp only [Act.put]); (try simp only [List.setIfInBounds_toArray]); (try simp only [List.set_cons_succ]); (try simp only [List.set_cons_zero])
          refine wpAnyH_take (i := 16) (oi := { dst := some 130, op := Go.Op.nilCheck (Go.Operand.tmp 114), type := 0, pos := "law.go:368", after := #[{ on := 0, ground := Go.Ground.data }, { on := 0, ground := Go.Ground.phase }, { on := 1, ground := Go.Ground.phase }, { on := 2, ground := Go.Ground.phase }, { on := 3, ground := Go.Ground.phase }, { on := 4, ground := Go.Ground.phase }, { on := 5, ground := Go.Ground.phase }, { on := 6, ground := Go.Ground.phase }, { on := 7, ground := Go.Ground.phase }, { on := 8, ground := Go.Ground.phase }, { on := 9, ground := Go.Ground.phase }, { on := 10, ground := Go.Ground.phase }, { on := 11, ground := Go.Ground.phase }, { on := 12, ground := Go.Ground.phase }, { on := 13, ground := Go.Ground.phase }, { on := 14, ground := Go.Ground.phase }, { on := 15, ground := Go.Ground.phase }], guard := none }) (v := ?v16g16a2) rfl (by kernel_rfl) (by kernel_rfl) (by kernel_rfl) (fun _ _ _ h => h) (Or.inl ⟨by rfl, ?y16g16a2⟩) (by assumption) ?r16g16a2
          case y16g16a2 => (intro w hSw; obtain ⟨s0, s1, s2, s3, s4, s5⟩ := hSw; go_simp; (try with_reducible rfl))
          (try simp only [Act.put]); (try simp only [List.setIfInBounds_toArray]); (try simp only [List.set_cons_succ]); (try simp only [List.set_cons_zero])
          refine wpAnyH_take (i := 17) (oi := { dst := some 131, op := Go.Op.fieldAddr 87 (Go.Operand.tmp 130) 2, type := 0, pos := "law.go:368", after := #[{ on := 16, ground := Go.Ground.data }, { on := 0, ground := Go.Ground.phase }, { on := 1, ground := Go.Ground.phase }, { on := 2, ground := Go.Ground.phase }, { on := 3, ground := Go.Ground.phase }, { on := 4, ground := Go.Ground.phase }, { on := 5, ground := Go.Ground.phase }, { on := 6, ground := Go.Ground.phase }, { on := 7, ground := Go.Ground.phase }, { on := 8, ground := Go.Ground.phase }, { on := 9, ground := Go.Ground.phase }, { on := 10, ground := Go.Ground.phase }, { on := 11, ground := Go.Ground.phase }, { on := 12, ground := Go.Ground.phase }, { on := 13, ground := Go.Ground.phase }, { on := 14, ground := Go.Ground.phase }, { on := 15, ground := Go.Ground.phase }], guard := none }) (v := ?v17g16a3) rfl (by kernel_rfl) (by kernel_rfl) (by kernel_rfl) (fun _ _ _ h => h) (Or.inl ⟨by rfl, ?y17g16a3⟩) (by assumption) ?r17g16a3
          case y17g16a3 => (intro w hSw; obtain ⟨s0, s1, s2, s3, s4, s5⟩ := hSw; go_simp; (try with_reducible rfl))
          (try simp only [Act.put]); (try simp only [List.setIfInBounds_toArray]); (try simp only [List.set_cons_succ]); (try simp only [List.set_cons_zero])
          refine wpAnyH_ready (rs := [18]) (by kernel_rfl) (by simp) ?_
          refine AllReadyH.cons (o := { dst := none, op := Go.Op.store 78 (Go.Operand.tmp 131) (Go.Operand.tmp 129), type := 0, pos := "law.go:368", after := #[{ on := 17, ground := Go.Ground.data }, { on := 15, ground := Go.Ground.data }, { on := 15, ground := Go.Ground.chain }, { on := 0, ground := Go.Ground.phase }, { on := 1, ground := Go.Ground.phase }, { on := 2, ground := Go.Ground.phase }, { on := 3, ground := Go.Ground.phase }, { on := 4, ground := Go.Ground.phase }, { on := 5, ground := Go.Ground.phase }, { on := 6, ground := Go.Ground.phase }, { on := 7, ground := Go.Ground.phase }, { on := 8, ground := Go.Ground.phase }, { on := 9, ground := Go.Ground.phase }, { on := 10, ground := Go.Ground.phase }, { on := 11, ground := Go.Ground.phase }, { on := 12, ground := Go.Ground.phase }, { on := 13, ground := Go.Ground.phase }, { on := 14, ground := Go.Ground.phase }, { on := 15, ground := Go.Ground.phase }], guard := none }) rfl (fun Kc hK => ?_) AllReadyH.nil
          go_simp
          refine hK.out _ _ HH8.out (fun hHeld => ?_)
          clear hK Kc
          (try simp only [Act.put]); (try simp only [List.setIfInBounds_toArray]); (try simp only [List.set_cons_succ]); (try simp only [List.set_cons_zero])
          refine wpAnyH_done (by kernel_rfl) ?_ _
          clear hHeld
          obtain ⟨Wf, hWf⟩ : ∃ Wf, w7.setCell ⟨c.m, 2, none⟩ (.slice uo (g2.S.length + 1) uc) = Wf := ⟨_, rfl⟩
          have hgo := HGO.out
          rw [hWf] at hgo ⊢
          exact key Y uo uc Wf ⟨v2', hgo⟩
        · go_simp
          go_at_call 15
          refine Calls.mono (watched_any (some ⟨c.A, 0, none⟩) c.N NA 0 none (some c.q1) _) ?_
          rintro e Vg16b1 ⟨rfl, hkVg16b1⟩
          have HKVg16b1 : Hid (Keeps W15 Vg16b1 (fun _ => False)) := HKU0.out.trans hkVg16b1 fun _ _ e => e
          clear hkVg16b1
          unfold viewV
          go_wp2_with fail
          refine hK.out _ _ (⟨HKVg16b1.out.cell' bX90 id, HKVg16b1.out.cell' bX91 id, HKVg16b1.out.cell' bX92 id, HKVg16b1.out.cell' bX100 id, HKVg16b1.out.cell' bX101 id, HKVg16b1.out.cell' b4 id⟩) (fun hHeld => ?_)
          clear hK Kc
          (try simp only [Act.put]); (try simp only [List.setIfInBounds_toArray]); (try simp only [List.set_cons_succ]); (try simp only [List.set_cons_zero])
          have c2Vg16b1 : Vg16b1.cell? ⟨c.m, 2, none⟩ = some g2.v2 := HKVg16b1.out.cell' c2 id
          refine wpAnyH_take (i := 13) (oi := { dst := some 127, op := Go.Op.build 93 #[(0, Go.Operand.tmp 125), (1, Go.Operand.tmp 126), (2, Go.Operand.const (Go.Value.int Go.IntKind.i64 1))], type := 93, pos := "law.go:368", after := #[{ on := 11, ground := Go.Ground.data }, { on := 12, ground := Go.Ground.data }], guard := none }) (v := ?v13g16b1) rfl (by kernel_rfl) (by kernel_rfl) (by kernel_rfl) (fun _ _ _ h => h) (Or.inl ⟨by rfl, ?y13g16b1⟩) (by assumption) ?r13g16b1
          case y13g16b1 => (intro w hSw; obtain ⟨s0, s1, s2, s3, s4, s5⟩ := hSw; go_simp; (try with_reducible rfl))
          (try simp only [Act.put]); (try simp only [List.setIfInBounds_toArray]); (try simp only [List.set_cons_succ]); (try simp only [List.set_cons_zero])
          refine wpAnyH_ready (rs := [4, 14]) (by kernel_rfl) (by simp) ?_
          refine AllReadyH.cons (o := { dst := some 118, op := Go.Op.load 78 (Go.Operand.tmp 117), type := 78, pos := "law.go:368", after := #[{ on := 3, ground := Go.Ground.data }], guard := none }) rfl (fun Kc hK => ?_) (AllReadyH.cons (o := { dst := some 128, op := Go.Op.buildSlice 78 1 #[(0, Go.Operand.tmp 127)], type := 78, pos := "law.go:368", after := #[{ on := 13, ground := Go.Ground.data }], guard := none }) rfl (fun Kc hK => ?_) AllReadyH.nil)
          · go_simp
            refine hK.out _ _ (⟨HKVg16b1.out.cell' bX90 id, HKVg16b1.out.cell' bX91 id, HKVg16b1.out.cell' bX92 id, HKVg16b1.out.cell' bX100 id, HKVg16b1.out.cell' bX101 id, HKVg16b1.out.cell' b4 id⟩) (fun hHeld => ?_)
            clear hK Kc
            (try simp only [Act.put]); (try simp only [List.setIfInBounds_toArray]); (try simp only [List.set_cons_succ]); (try simp only [List.set_cons_zero])
            obtain ⟨Vg16bx2, hVg16bx2⟩ : ∃ V, Vg16b1.alloc (.cells #[.slice (some ⟨c.A, 0, none⟩) c.N NA, .int .i64 0, .pointer (some ⟨c.q1, 0, none⟩), .slice (some ⟨c.A, 0, none⟩) c.N NA, .int .i64 0, .int .i64 1] 93) = V := ⟨_, rfl⟩
            obtain ⟨Y, hY⟩ : ∃ X, Vg16b1.heap.size = X := ⟨_, rfl⟩
            have HKVg16bx2 : Hid (Keeps W15 Vg16bx2 (fun _ => False)) := by rw [← hVg16bx2]; exact HKVg16b1.out.alloc _
            have HSr : Hid (Src Try.prog 6 78 (.slice (some ⟨Y, 0, none⟩) 1 1) 1 [.slice (some ⟨c.A, 0, none⟩) c.N NA, .int .i64 0, .pointer (some ⟨c.q1, 0, none⟩), .slice (some ⟨c.A, 0, none⟩) c.N NA, .int .i64 0, .int .i64 1] Vg16bx2) := by rw [← hVg16bx2, ← hY]; exact src6 _ _ _ _ _ _ _ (by simp [Value.oneCell'])
            have c2v : Vg16bx2.cell? ⟨c.m, 2, none⟩ = some g2.v2 := HKVg16bx2.out.cell' c2 id
            refine wpAnyH_ready (rs := [14]) (by kernel_rfl) (by simp) ?_
            refine AllReadyH.cons (o := { dst := some 128, op := Go.Op.buildSlice 78 1 #[(0, Go.Operand.tmp 127)], type := 78, pos := "law.go:368", after := #[{ on := 13, ground := Go.Ground.data }], guard := none }) rfl (fun Kc hK => ?_) AllReadyH.nil
            go_simp
            refine hK.out _ _ (⟨HKVg16bx2.out.cell' bX90 id, HKVg16bx2.out.cell' bX91 id, HKVg16bx2.out.cell' bX92 id, HKVg16bx2.out.cell' bX100 id, HKVg16bx2.out.cell' bX101 id, HKVg16bx2.out.cell' b4 id⟩) (fun hHeld => ?_)
            clear hK Kc
            (try simp only [Act.put]); (try simp only [List.setIfInBounds_toArray]); (try simp only [List.set_cons_succ]); (try simp only [List.set_cons_zero])
            clear hVg16bx2 hY
            refine wpAnyH_ready (rs := [15]) (by kernel_rfl) (by simp) ?_
            refine AllReadyH.cons (o := { dst := some 129, op := Go.Op.call { callee := Go.Callee.builtin Go.Builtin.append, args := #[Go.Operand.tmp 118, Go.Operand.tmp 128], argTypes := #[78, 78] }, type := 78, pos := "law.go:368", after := #[{ on := 4, ground := Go.Ground.data }, { on := 14, ground := Go.Ground.data }, { on := 11, ground := Go.Ground.chain }], guard := none }) rfl (fun Kc hK => ?_) AllReadyH.nil
            refine step_append_anyN (P := Try.prog) _ rfl (.tmp 118) (.tmp 128) 78 78 rfl 93 (.agg #[.slice none 0 0, .int .i64 0, .pointer none, .slice none 0 0, .int .i64 0, .int .i64 0]) 6 80 Try.underlying78 info93 rfl g2.v2 g2.S.length (g2.S.flatMap (snC c)) rfl (ownN_kept HOl.out HKVg16bx2.out fun _ _ => id) (.slice (some ⟨Y, 0, none⟩) 1 1) 1 [.slice (some ⟨c.A, 0, none⟩) c.N NA, .int .i64 0, .pointer (some ⟨c.q1, 0, none⟩), .slice (some ⟨c.A, 0, none⟩) c.N NA, .int .i64 0, .int .i64 1] rfl HSr.out (by omega) (by omega) ?_
            intro v' w7 ha1 ha2 ha3
            obtain ⟨uo, uc, rfl⟩ := ownN_form ha1
            obtain ⟨p1, p2, hrd⟩ := RowDone.grown (w := W15) (off := 2) (by decide) HKVg16bx2.out HG15.out.inv.room rfl (fun g' e e2 => absurd (e2 ▸ e) (ownN_ne (by decide) HG15.out.inv.room HOl.out)) ha1 ha2 ha3
            obtain ⟨v2', hgo⟩ := HG15.out.inv.join (s := ⟨some ⟨c.A, 0, none⟩, c.N, NA, 0, some ⟨c.A, 0, none⟩, NA, 1⟩) hrd
            have hgr := Keeps.ofGrown ha2
            have HH7 : Hid (w7.cell? ⟨X9, 0, none⟩ = some (.slice (some ⟨c.A, 0, none⟩) c.N NA) ∧ w7.cell? ⟨X9, 1, none⟩ = some (.int .i64 0) ∧ w7.cell? ⟨X9, 2, none⟩ = some (.pointer none) ∧ w7.cell? ⟨X10, 0, none⟩ = some (.slice (some ⟨c.A, 0, none⟩) c.N NA) ∧ w7.cell? ⟨X10, 1, none⟩ = some (.int .i64 0) ∧ w7.cell? ⟨c.m, 4, none⟩ = some (.pointer (some ⟨c.q1, 0, none⟩))) := ⟨hgr.cell' (HKVg16bx2.out.cell' bX90 id) (fun e => HR9.out.2 .seen e), hgr.cell' (HKVg16bx2.out.cell' bX91 id) (fun e => HR9.out.2 .seen e), hgr.cell' (HKVg16bx2.out.cell' bX92 id) (fun e => HR9.out.2 .seen e), hgr.cell' (HKVg16bx2.out.cell' bX100 id) (fun e => HR10.out.2 .seen e), hgr.cell' (HKVg16bx2.out.cell' bX101 id) (fun e => HR10.out.2 .seen e), hgr.cell' (HKVg16bx2.out.cell' b4 id) (fun e => by have h : Ix.seen = Ix.room := HG15.out.inv.ap _ _ c.m e rfl; cases h)⟩
            obtain ⟨zX90, zX91, zX92⟩ := boxCells3 (hgo.box HR9.out.1 HR9.out.2).1
            obtain ⟨zX100, zX101⟩ := boxCells2 (hgo.box HR10.out.1 HR10.out.2).1
            have HH8 : Hid ((w7.setCell ⟨c.m, 2, none⟩ (.slice uo (g2.S.length + 1) uc)).cell? ⟨X9, 0, none⟩ = some (.slice (some ⟨c.A, 0, none⟩) c.N NA) ∧ (w7.setCell ⟨c.m, 2, none⟩ (.slice uo (g2.S.length + 1) uc)).cell? ⟨X9, 1, none⟩ = some (.int .i64 0) ∧ (w7.setCell ⟨c.m, 2, none⟩ (.slice uo (g2.S.length + 1) uc)).cell? ⟨X9, 2, none⟩ = some (.pointer none) ∧ (w7.setCell ⟨c.m, 2, none⟩ (.slice uo (g2.S.length + 1) uc)).cell? ⟨X10, 0, none⟩ = some (.slice (some ⟨c.A, 0, none⟩) c.N NA) ∧ (w7.setCell ⟨c.m, 2, none⟩ (.slice uo (g2.S.length + 1) uc)).cell? ⟨X10, 1, none⟩ = some (.int .i64 0) ∧ (w7.setCell ⟨c.m, 2, none⟩ (.slice uo (g2.S.length + 1) uc)).cell? ⟨c.m, 4, none⟩ = some (.pointer (some ⟨c.q1, 0, none⟩))) := ⟨zX90, zX91, zX92, zX100, zX101, hgo.inv.cell rfl⟩
            have HGO := hidM hgo
            clear zX90 zX91 zX92 zX100 zX101 ha1 ha2 ha3 hrd hgo hgr
            refine hK.out _ _ HH7.out (fun hHeld => ?_)
            clear hK Kc
            (try simp only [Act.put]); (try simp only [List.setIfInBounds_toArray]); (try simp only [List.set_cons_succ]); (try simp only [List.set_cons_zero])
            refine wpAnyH_take (i := 16) (oi := { dst := some 130, op := Go.Op.nilCheck (Go.Operand.tmp 114), type := 0, pos := "law.go:368", after := #[{ on := 0, ground := Go.Ground.data }, { on := 0, ground := Go.Ground.phase }, { on := 1, ground := Go.Ground.phase }, { on := 2, ground := Go.Ground.phase }, { on := 3, ground := Go.Ground.phase }, { on := 4, ground := Go.Ground.phase }, { on := 5, ground := Go.Ground.phase }, { on := 6, ground := Go.Ground.phase }, { on := 7, ground := Go.Ground.phase }, { on := 8, ground := Go.Ground.phase }, { on := 9, ground := Go.Ground.phase }, { on := 10, ground := Go.Ground.phase }, { on := 11, ground := Go.Ground.phase }, { on := 12, ground := Go.Ground.phase }, { on := 13, ground := Go.Ground.phase }, { on := 14, ground := Go.Ground.phase }, { on := 15, ground := Go.Ground.phase }], guard := none }) (v := ?v16g16bx2) rfl (by kernel_rfl) (by kernel_rfl) (by kernel_rfl) (fun _ _ _ h => h) (Or.inl ⟨by rfl, ?y16g16bx2⟩) (by assumption) ?r16g16bx2
            case y16g16bx2 => (intro w hSw; obtain ⟨s0, s1, s2, s3, s4, s5⟩ := hSw; go_simp; (try with_reducible rfl))
            (try simp only [Act.put]); (try simp only [List.setIfInBounds_toArray]); (try simp only [List.set_cons_succ]); (try simp only [List.set_cons_zero])
            refine wpAnyH_take (i := 17) (oi := { dst := some 131, op := Go.Op.fieldAddr 87 (Go.Operand.tmp 130) 2, type := 0, pos := "law.go:368", after := #[{ on := 16, ground := Go.Ground.data }, { on := 0, ground := Go.Ground.phase }, { on := 1, ground := Go.Ground.phase }, { on := 2, ground := Go.Ground.phase }, { on := 3, ground := Go.Ground.phase }, { on := 4, ground := Go.Ground.phase }, { on := 5, ground := Go.Ground.phase }, { on := 6, ground := Go.Ground.phase }, { on := 7, ground := Go.Ground.phase }, { on := 8, ground := Go.Ground.phase }, { on := 9, ground := Go.Ground.phase }, { on := 10, ground := Go.Ground.phase }, { on := 11, ground := Go.Ground.phase }, { on := 12, ground := Go.Ground.phase }, { on := 13, ground := Go.Ground.phase }, { on := 14, ground := Go.Ground.phase }, { on := 15, ground := Go.Ground.phase }], guard := none }) (v := ?v17g16bx3) rfl (by kernel_rfl) (by kernel_rfl) (by kernel_rfl) (fun _ _ _ h => h) (Or.inl ⟨by rfl, ?y17g16bx3⟩) (by assumption) ?r17g16bx3
            case y17g16bx3 => (intro w hSw; obtain ⟨s0, s1, s2, s3, s4, s5⟩ := hSw; go_simp; (try with_reducible rfl))
            (try simp only [Act.put]); (try simp only [List.setIfInBounds_toArray]); (try simp only [List.set_cons_succ]); (try simp only [List.set_cons_zero])
            refine wpAnyH_ready (rs := [18]) (by kernel_rfl) (by simp) ?_
            refine AllReadyH.cons (o := { dst := none, op := Go.Op.store 78 (Go.Operand.tmp 131) (Go.Operand.tmp 129), type := 0, pos := "law.go:368", after := #[{ on := 17, ground := Go.Ground.data }, { on := 15, ground := Go.Ground.data }, { on := 15, ground := Go.Ground.chain }, { on := 0, ground := Go.Ground.phase }, { on := 1, ground := Go.Ground.phase }, { on := 2, ground := Go.Ground.phase }, { on := 3, ground := Go.Ground.phase }, { on := 4, ground := Go.Ground.phase }, { on := 5, ground := Go.Ground.phase }, { on := 6, ground := Go.Ground.phase }, { on := 7, ground := Go.Ground.phase }, { on := 8, ground := Go.Ground.phase }, { on := 9, ground := Go.Ground.phase }, { on := 10, ground := Go.Ground.phase }, { on := 11, ground := Go.Ground.phase }, { on := 12, ground := Go.Ground.phase }, { on := 13, ground := Go.Ground.phase }, { on := 14, ground := Go.Ground.phase }, { on := 15, ground := Go.Ground.phase }], guard := none }) rfl (fun Kc hK => ?_) AllReadyH.nil
            go_simp
            refine hK.out _ _ HH8.out (fun hHeld => ?_)
            clear hK Kc
            (try simp only [Act.put]); (try simp only [List.setIfInBounds_toArray]); (try simp only [List.set_cons_succ]); (try simp only [List.set_cons_zero])
            refine wpAnyH_done (by kernel_rfl) ?_ _
            clear hHeld
            obtain ⟨Wf, hWf⟩ : ∃ Wf, w7.setCell ⟨c.m, 2, none⟩ (.slice uo (g2.S.length + 1) uc) = Wf := ⟨_, rfl⟩
            have hgo := HGO.out
            rw [hWf] at hgo ⊢
            exact key Y uo uc Wf ⟨v2', hgo⟩
          · obtain ⟨Vg16by2, hVg16by2⟩ : ∃ V, Vg16b1.alloc (.cells #[.slice (some ⟨c.A, 0, none⟩) c.N NA, .int .i64 0, .pointer (some ⟨c.q1, 0, none⟩), .slice (some ⟨c.A, 0, none⟩) c.N NA, .int .i64 0, .int .i64 1] 93) = V := ⟨_, rfl⟩
            obtain ⟨Y, hY⟩ : ∃ X, Vg16b1.heap.size = X := ⟨_, rfl⟩
            have HKVg16by2 : Hid (Keeps W15 Vg16by2 (fun _ => False)) := by rw [← hVg16by2]; exact HKVg16b1.out.alloc _
            have HSr : Hid (Src Try.prog 6 78 (.slice (some ⟨Y, 0, none⟩) 1 1) 1 [.slice (some ⟨c.A, 0, none⟩) c.N NA, .int .i64 0, .pointer (some ⟨c.q1, 0, none⟩), .slice (some ⟨c.A, 0, none⟩) c.N NA, .int .i64 0, .int .i64 1] Vg16by2) := by rw [← hVg16by2, ← hY]; exact src6 _ _ _ _ _ _ _ (by simp [Value.oneCell'])
            have c2v : Vg16by2.cell? ⟨c.m, 2, none⟩ = some g2.v2 := HKVg16by2.out.cell' c2 id
            go_simp
            refine hK.out _ _ (⟨HKVg16by2.out.cell' bX90 id, HKVg16by2.out.cell' bX91 id, HKVg16by2.out.cell' bX92 id, HKVg16by2.out.cell' bX100 id, HKVg16by2.out.cell' bX101 id, HKVg16by2.out.cell' b4 id⟩) (fun hHeld => ?_)
            clear hK Kc
            (try simp only [Act.put]); (try simp only [List.setIfInBounds_toArray]); (try simp only [List.set_cons_succ]); (try simp only [List.set_cons_zero])
            clear hVg16by2 hY
            refine wpAnyH_ready (rs := [4]) (by kernel_rfl) (by simp) ?_
            refine AllReadyH.cons (o := { dst := some 118, op := Go.Op.load 78 (Go.Operand.tmp 117), type := 78, pos := "law.go:368", after := #[{ on := 3, ground := Go.Ground.data }], guard := none }) rfl (fun Kc hK => ?_) AllReadyH.nil
            go_simp
            refine hK.out _ _ (⟨HKVg16by2.out.cell' bX90 id, HKVg16by2.out.cell' bX91 id, HKVg16by2.out.cell' bX92 id, HKVg16by2.out.cell' bX100 id, HKVg16by2.out.cell' bX101 id, HKVg16by2.out.cell' b4 id⟩) (fun hHeld => ?_)
            clear hK Kc
            (try simp only [Act.put]); (try simp only [List.setIfInBounds_toArray]); (try simp only [List.set_cons_succ]); (try simp only [List.set_cons_zero])
            refine wpAnyH_ready (rs := [15]) (by kernel_rfl) (by simp) ?_
            refine AllReadyH.cons (o := { dst := some 129, op := Go.Op.call { callee := Go.Callee.builtin Go.Builtin.append, args := #[Go.Operand.tmp 118, Go.Operand.tmp 128], argTypes := #[78, 78] }, type := 78, pos := "law.go:368", after := #[{ on := 4, ground := Go.Ground.data }, { on := 14, ground := Go.Ground.data }, { on := 11, ground := Go.Ground.chain }], guard := none }) rfl (fun Kc hK => ?_) AllReadyH.nil
            refine step_append_anyN (P := Try.prog) _ rfl (.tmp 118) (.tmp 128) 78 78 rfl 93 (.agg #[.slice none 0 0, .int .i64 0, .pointer none, .slice none 0 0, .int .i64 0, .int .i64 0]) 6 80 Try.underlying78 info93 rfl g2.v2 g2.S.length (g2.S.flatMap (snC c)) rfl (ownN_kept HOl.out HKVg16by2.out fun _ _ => id) (.slice (some ⟨Y, 0, none⟩) 1 1) 1 [.slice (some ⟨c.A, 0, none⟩) c.N NA, .int .i64 0, .pointer (some ⟨c.q1, 0, none⟩), .slice (some ⟨c.A, 0, none⟩) c.N NA, .int .i64 0, .int .i64 1] rfl HSr.out (by omega) (by omega) ?_
            intro v' w7 ha1 ha2 ha3
            obtain ⟨uo, uc, rfl⟩ := ownN_form ha1
            obtain ⟨p1, p2, hrd⟩ := RowDone.grown (w := W15) (off := 2) (by decide) HKVg16by2.out HG15.out.inv.room rfl (fun g' e e2 => absurd (e2 ▸ e) (ownN_ne (by decide) HG15.out.inv.room HOl.out)) ha1 ha2 ha3
            obtain ⟨v2', hgo⟩ := HG15.out.inv.join (s := ⟨some ⟨c.A, 0, none⟩, c.N, NA, 0, some ⟨c.A, 0, none⟩, NA, 1⟩) hrd
            have hgr := Keeps.ofGrown ha2
            have HH7 : Hid (w7.cell? ⟨X9, 0, none⟩ = some (.slice (some ⟨c.A, 0, none⟩) c.N NA) ∧ w7.cell? ⟨X9, 1, none⟩ = some (.int .i64 0) ∧ w7.cell? ⟨X9, 2, none⟩ = some (.pointer none) ∧ w7.cell? ⟨X10, 0, none⟩ = some (.slice (some ⟨c.A, 0, none⟩) c.N NA) ∧ w7.cell? ⟨X10, 1, none⟩ = some (.int .i64 0) ∧ w7.cell? ⟨c.m, 4, none⟩ = some (.pointer (some ⟨c.q1, 0, none⟩))) := ⟨hgr.cell' (HKVg16by2.out.cell' bX90 id) (fun e => HR9.out.2 .seen e), hgr.cell' (HKVg16by2.out.cell' bX91 id) (fun e => HR9.out.2 .seen e), hgr.cell' (HKVg16by2.out.cell' bX92 id) (fun e => HR9.out.2 .seen e), hgr.cell' (HKVg16by2.out.cell' bX100 id) (fun e => HR10.out.2 .seen e), hgr.cell' (HKVg16by2.out.cell' bX101 id) (fun e => HR10.out.2 .seen e), hgr.cell' (HKVg16by2.out.cell' b4 id) (fun e => by have h : Ix.seen = Ix.room := HG15.out.inv.ap _ _ c.m e rfl; cases h)⟩
            obtain ⟨zX90, zX91, zX92⟩ := boxCells3 (hgo.box HR9.out.1 HR9.out.2).1
            obtain ⟨zX100, zX101⟩ := boxCells2 (hgo.box HR10.out.1 HR10.out.2).1
            have HH8 : Hid ((w7.setCell ⟨c.m, 2, none⟩ (.slice uo (g2.S.length + 1) uc)).cell? ⟨X9, 0, none⟩ = some (.slice (some ⟨c.A, 0, none⟩) c.N NA) ∧ (w7.setCell ⟨c.m, 2, none⟩ (.slice uo (g2.S.length + 1) uc)).cell? ⟨X9, 1, none⟩ = some (.int .i64 0) ∧ (w7.setCell ⟨c.m, 2, none⟩ (.slice uo (g2.S.length + 1) uc)).cell? ⟨X9, 2, none⟩ = some (.pointer none) ∧ (w7.setCell ⟨c.m, 2, none⟩ (.slice uo (g2.S.length + 1) uc)).cell? ⟨X10, 0, none⟩ = some (.slice (some ⟨c.A, 0, none⟩) c.N NA) ∧ (w7.setCell ⟨c.m, 2, none⟩ (.slice uo (g2.S.length + 1) uc)).cell? ⟨X10, 1, none⟩ = some (.int .i64 0) ∧ (w7.setCell ⟨c.m, 2, none⟩ (.slice uo (g2.S.length + 1) uc)).cell? ⟨c.m, 4, none⟩ = some (.pointer (some ⟨c.q1, 0, none⟩))) := ⟨zX90, zX91, zX92, zX100, zX101, hgo.inv.cell rfl⟩
            have HGO := hidM hgo
            clear zX90 zX91 zX92 zX100 zX101 ha1 ha2 ha3 hrd hgo hgr
            refine hK.out _ _ HH7.out (fun hHeld => ?_)
            clear hK Kc
            (try simp only [Act.put]); (try simp only [List.setIfInBounds_toArray]); (try simp only [List.set_cons_succ]); (try simp only [List.set_cons_zero])
            refine wpAnyH_take (i := 16) (oi := { dst := some 130, op := Go.Op.nilCheck (Go.Operand.tmp 114), type := 0, pos := "law.go:368", after := #[{ on := 0, ground := Go.Ground.data }, { on := 0, ground := Go.Ground.phase }, { on := 1, ground := Go.Ground.phase }, { on := 2, ground := Go.Ground.phase }, { on := 3, ground := Go.Ground.phase }, { on := 4, ground := Go.Ground.phase }, { on := 5, ground := Go.Ground.phase }, { on := 6, ground := Go.Ground.phase }, { on := 7, ground := Go.Ground.phase }, { on := 8, ground := Go.Ground.phase }, { on := 9, ground := Go.Ground.phase }, { on := 10, ground := Go.Ground.phase }, { on := 11, ground := Go.Ground.phase }, { on := 12, ground := Go.Ground.phase }, { on := 13, ground := Go.Ground.phase }, { on := 14, ground := Go.Ground.phase }, { on := 15, ground := Go.Ground.phase }], guard := none }) (v := ?v16g16by2) rfl (by kernel_rfl) (by kernel_rfl) (by kernel_rfl) (fun _ _ _ h => h) (Or.inl ⟨by rfl, ?y16g16by2⟩) (by assumption) ?r16g16by2
            case y16g16by2 => (intro w hSw; obtain ⟨s0, s1, s2, s3, s4, s5⟩ := hSw; go_simp; (try with_reducible rfl))
            (try simp only [Act.put]); (try simp only [List.setIfInBounds_toArray]); (try simp only [List.set_cons_succ]); (try simp only [List.set_cons_zero])
            refine wpAnyH_take (i := 17) (oi := { dst := some 131, op := Go.Op.fieldAddr 87 (Go.Operand.tmp 130) 2, type := 0, pos := "law.go:368", after := #[{ on := 16, ground := Go.Ground.data }, { on := 0, ground := Go.Ground.phase }, { on := 1, ground := Go.Ground.phase }, { on := 2, ground := Go.Ground.phase }, { on := 3, ground := Go.Ground.phase }, { on := 4, ground := Go.Ground.phase }, { on := 5, ground := Go.Ground.phase }, { on := 6, ground := Go.Ground.phase }, { on := 7, ground := Go.Ground.phase }, { on := 8, ground := Go.Ground.phase }, { on := 9, ground := Go.Ground.phase }, { on := 10, ground := Go.Ground.phase }, { on := 11, ground := Go.Ground.phase }, { on := 12, ground := Go.Ground.phase }, { on := 13, ground := Go.Ground.phase }, { on := 14, ground := Go.Ground.phase }, { on := 15, ground := Go.Ground.phase }], guard := none }) (v := ?v17g16by3) rfl (by kernel_rfl) (by kernel_rfl) (by kernel_rfl) (fun _ _ _ h => h) (Or.inl ⟨by rfl, ?y17g16by3⟩) (by assumption) ?r17g16by3
            case y17g16by3 => (intro w hSw; obtain ⟨s0, s1, s2, s3, s4, s5⟩ := hSw; go_simp; (try with_reducible rfl))
            (try simp only [Act.put]); (try simp only [List.setIfInBounds_toArray]); (try simp only [List.set_cons_succ]); (try simp only [List.set_cons_zero])
            refine wpAnyH_ready (rs := [18]) (by kernel_rfl) (by simp) ?_
            refine AllReadyH.cons (o := { dst := none, op := Go.Op.store 78 (Go.Operand.tmp 131) (Go.Operand.tmp 129), type := 0, pos := "law.go:368", after := #[{ on := 17, ground := Go.Ground.data }, { on := 15, ground := Go.Ground.data }, { on := 15, ground := Go.Ground.chain }, { on := 0, ground := Go.Ground.phase }, { on := 1, ground := Go.Ground.phase }, { on := 2, ground := Go.Ground.phase }, { on := 3, ground := Go.Ground.phase }, { on := 4, ground := Go.Ground.phase }, { on := 5, ground := Go.Ground.phase }, { on := 6, ground := Go.Ground.phase }, { on := 7, ground := Go.Ground.phase }, { on := 8, ground := Go.Ground.phase }, { on := 9, ground := Go.Ground.phase }, { on := 10, ground := Go.Ground.phase }, { on := 11, ground := Go.Ground.phase }, { on := 12, ground := Go.Ground.phase }, { on := 13, ground := Go.Ground.phase }, { on := 14, ground := Go.Ground.phase }, { on := 15, ground := Go.Ground.phase }], guard := none }) rfl (fun Kc hK => ?_) AllReadyH.nil
            go_simp
            refine hK.out _ _ HH8.out (fun hHeld => ?_)
            clear hK Kc
            (try simp only [Act.put]); (try simp only [List.setIfInBounds_toArray]); (try simp only [List.set_cons_succ]); (try simp only [List.set_cons_zero])
            refine wpAnyH_done (by kernel_rfl) ?_ _
            clear hHeld
            obtain ⟨Wf, hWf⟩ : ∃ Wf, w7.setCell ⟨c.m, 2, none⟩ (.slice uo (g2.S.length + 1) uc) = Wf := ⟨_, rfl⟩
            have hgo := HGO.out
            rw [hWf] at hgo ⊢
            exact key Y uo uc Wf ⟨v2', hgo⟩
      rintro Yn16 uon16 ucn16 W16 ⟨v2n16, hg⟩
      obtain ⟨g3, hgn⟩ : ∃ g', g' = ({ g2 with v2 := v2n16, S := g2.S ++ [⟨some ⟨c.A, 0, none⟩, c.N, NA, 0, some ⟨c.A, 0, none⟩, NA, 1⟩] } : Gh) := ⟨_, rfl⟩
      rw [← hgn] at hg
      have HGg3 := hidM hgn
      have HG16 := hidM (HG15.out.trans hg (fun _ f => f.elim))
      replace HR9 := hidM (hg.box HR9.out.1 HR9.out.2)
      replace HR10 := hidM (hg.box HR10.out.1 HR10.out.2)
      clear hg hgn HG15 HOl c2 bX90 bX91 bX92 bX100 bX101 b4
      have HS3 : Hid (g3.S = [⟨some ⟨c.A, 0, none⟩, c.N, NA, 0, some ⟨c.A, 0, none⟩, NA, 1⟩]) := hidM (by rw [HGg3.out]; show g2.S ++ _ = _; rw [HS2.out]; rfl)
      have hSl3 : g3.S.length ≤ 3 := by rw [HS3.out]; simp
      obtain ⟨bX90, bX91, bX92⟩ := boxCells3 HR9.out.1
      obtain ⟨bX100, bX101⟩ := boxCells2 HR10.out.1
      have c2 : W16.cell? ⟨c.m, 2, none⟩ = some g3.v2 := HG16.out.inv.cell rfl
      have HOl : Hid (W16.ownsRow 0 93 6 g3.v2 g3.S.length (g3.S.flatMap (snC c))) := HG16.out.inv.cm .seen
      go_wp2_with fail
      refine' share3 (fun (Y : Nat) (uo : Option Addr) (uc : Nat) (w' : World) => ∃ v', Go c NoF W16 g3 w' { g3 with v2 := v', S := g3.S ++ [⟨some ⟨c.A, 0, none⟩, c.N, NA, 0, some ⟨c.A, 0, none⟩, NA, 0⟩] }) ?_ ?_
      rotate_left 1
      · intro key
        obtain ⟨U0, hU0⟩ : ∃ U0, W16.drew = U0 := ⟨_, rfl⟩
        have HKU0 : Hid (Keeps W16 U0 (fun _ => False)) := by rw [← hU0]; exact (Keeps.refl _ _).drew
        refine wp_region_held_drew (S := fun w' => w'.cell? ⟨X9, 0, none⟩ = some (.slice (some ⟨c.A, 0, none⟩) c.N NA) ∧ w'.cell? ⟨X9, 1, none⟩ = some (.int .i64 0) ∧ w'.cell? ⟨X9, 2, none⟩ = some (.pointer none) ∧ w'.cell? ⟨X10, 0, none⟩ = some (.slice (some ⟨c.A, 0, none⟩) c.N NA) ∧ w'.cell? ⟨X10, 1, none⟩ = some (.int .i64 0)) (by kernel_rfl) (by rw [hU0]; exact ⟨HKU0.out.cell' bX90 id, HKU0.out.cell' bX91 id, HKU0.out.cell' bX92 id, HKU0.out.cell' bX100 id, HKU0.out.cell' bX101 id⟩) (fun hHeld => ?_)
        rw [hU0] at hHeld ⊢
        clear hU0
        have c2u : U0.cell? ⟨c.m, 2, none⟩ = some g3.v2 := HKU0.out.cell' c2 id
        refine wpAnyH_take (i := 0) (oi := { dst := some 132, op := Go.Op.move (Go.Operand.tmp 4), type := 24, pos := "law.go:369", after := #[], guard := none }) (v := ?v0g171) rfl (by kernel_rfl) (by kernel_rfl) (by kernel_rfl) (fun _ _ _ h => h) (Or.inl ⟨by rfl, ?y0g171⟩) (by assumption) ?r0g171
        case y0g171 => (intro w hSw; obtain ⟨s0, s1, s2, s3, s4⟩ := hSw; go_simp; (try with_reducible rfl))
        (try simp only [Act.put]); (try simp only [List.setIfInBounds_toArray]); (try simp only [List.set_cons_succ]); (try simp only [List.set_cons_zero])
        refine wpAnyH_take (i := 1) (oi := { dst := some 133, op := Go.Op.move (Go.Operand.tmp 4), type := 24, pos := "law.go:369", after := #[], guard := none }) (v := ?v1g172) rfl (by kernel_rfl) (by kernel_rfl) (by kernel_rfl) (fun _ _ _ h => h) (Or.inl ⟨by rfl, ?y1g172⟩) (by assumption) ?r1g172
        case y1g172 => (intro w hSw; obtain ⟨s0, s1, s2, s3, s4⟩ := hSw; go_simp; (try with_reducible rfl))
        (try simp only [Act.put]); (try simp only [List.setIfInBounds_toArray]); (try simp only [List.set_cons_succ]); (try simp only [List.set_cons_zero])
        refine wpAnyH_take (i := 2) (oi := { dst := some 134, op := Go.Op.nilCheck (Go.Operand.tmp 133), type := 0, pos := "law.go:369", after := #[{ on := 1, ground := Go.Ground.data }], guard := none }) (v := ?v2g173) rfl (by kernel_rfl) (by kernel_rfl) (by kernel_rfl) (fun _ _ _ h => h) (Or.inl ⟨by rfl, ?y2g173⟩) (by assumption) ?r2g173
        case y2g173 => (intro w hSw; obtain ⟨s0, s1, s2, s3, s4⟩ := hSw; go_simp; (try with_reducible rfl))
        (try simp only [Act.put]); (try simp only [List.setIfInBounds_toArray]); (try simp only [List.set_cons_succ]); (try simp only [List.set_cons_zero])
        refine wpAnyH_take (i := 3) (oi := { dst := some 135, op := Go.Op.fieldAddr 87 (Go.Operand.tmp 134) 2, type := 0, pos := "law.go:369", after := #[{ on := 2, ground := Go.Ground.data }], guard := none }) (v := ?v3g174) rfl (by kernel_rfl) (by kernel_rfl) (by kernel_rfl) (fun _ _ _ h => h) (Or.inl ⟨by rfl, ?y3g174⟩) (by assumption) ?r3g174
        case y3g174 => (intro w hSw; obtain ⟨s0, s1, s2, s3, s4⟩ := hSw; go_simp; (try with_reducible rfl))
        (try simp only [Act.put]); (try simp only [List.setIfInBounds_toArray]); (try simp only [List.set_cons_succ]); (try simp only [List.set_cons_zero])
        refine wpAnyH_take (i := 5) (oi := { dst := some 137, op := Go.Op.load 37 (Go.Operand.tmp 9), type := 37, pos := "law.go:369", after := #[], guard := none }) (v := ?v5g175) rfl (by kernel_rfl) (by kernel_rfl) (by kernel_rfl) (fun _ _ _ h => h) (Or.inl ⟨by rfl, ?y5g175⟩) (by assumption) ?r5g175
        case y5g175 => (intro w hSw; obtain ⟨s0, s1, s2, s3, s4⟩ := hSw; go_simp; (try with_reducible rfl))
        (try simp only [Act.put]); (try simp only [List.setIfInBounds_toArray]); (try simp only [List.set_cons_succ]); (try simp only [List.set_cons_zero])
        refine wpAnyH_take (i := 6) (oi := { dst := some 138, op := Go.Op.load 91 (Go.Operand.tmp 10), type := 91, pos := "law.go:369", after := #[], guard := none }) (v := ?v6g176) rfl (by kernel_rfl) (by kernel_rfl) (by kernel_rfl) (fun _ _ _ h => h) (Or.inl ⟨by rfl, ?y6g176⟩) (by assumption) ?r6g176
        case y6g176 => (intro w hSw; obtain ⟨s0, s1, s2, s3, s4⟩ := hSw; go_simp; (try with_reducible rfl))
        (try simp only [Act.put]); (try simp only [List.setIfInBounds_toArray]); (try simp only [List.set_cons_succ]); (try simp only [List.set_cons_zero])
        refine wpAnyH_take (i := 7) (oi := { dst := some 139, op := Go.Op.build 93 #[(0, Go.Operand.tmp 137), (1, Go.Operand.tmp 138)], type := 93, pos := "law.go:369", after := #[{ on := 5, ground := Go.Ground.data }, { on := 6, ground := Go.Ground.data }], guard := none }) (v := ?v7g177) rfl (by kernel_rfl) (by kernel_rfl) (by kernel_rfl) (fun _ _ _ h => h) (Or.inl ⟨by rfl, ?y7g177⟩) (by assumption) ?r7g177
        case y7g177 => (intro w hSw; obtain ⟨s0, s1, s2, s3, s4⟩ := hSw; go_simp; (try with_reducible rfl))
        (try simp only [Act.put]); (try simp only [List.setIfInBounds_toArray]); (try simp only [List.set_cons_succ]); (try simp only [List.set_cons_zero])
        refine wpAnyH_ready (rs := [4, 8]) (by kernel_rfl) (by simp) ?_
        refine AllReadyH.cons (o := { dst := some 136, op := Go.Op.load 78 (Go.Operand.tmp 135), type := 78, pos := "law.go:369", after := #[{ on := 3, ground := Go.Ground.data }], guard := none }) rfl (fun Kc hK => ?_) (AllReadyH.cons (o := { dst := some 140, op := Go.Op.buildSlice 78 1 #[(0, Go.Operand.tmp 139)], type := 78, pos := "law.go:369", after := #[{ on := 7, ground := Go.Ground.data }], guard := none }) rfl (fun Kc hK => ?_) AllReadyH.nil)
        · go_simp
          refine hK.out _ _ (⟨HKU0.out.cell' bX90 id, HKU0.out.cell' bX91 id, HKU0.out.cell' bX92 id, HKU0.out.cell' bX100 id, HKU0.out.cell' bX101 id⟩) (fun hHeld => ?_)
          clear hK Kc
          (try simp only [Act.put]); (try simp only [List.setIfInBounds_toArray]); (try simp only [List.set_cons_succ]); (try simp only [List.set_cons_zero])
          obtain ⟨Vg17a1, hVg17a1⟩ : ∃ V, U0.alloc (.cells #[.slice (some ⟨c.A, 0, none⟩) c.N NA, .int .i64 0, .pointer none, .slice (some ⟨c.A, 0, none⟩) c.N NA, .int .i64 0, .int .i64 0] 93) = V := ⟨_, rfl⟩
          obtain ⟨Y, hY⟩ : ∃ X, U0.heap.size = X := ⟨_, rfl⟩
          have HKVg17a1 : Hid (Keeps W16 Vg17a1 (fun _ => False)) := by rw [← hVg17a1]; exact HKU0.out.alloc _
          have HSr : Hid (Src Try.prog 6 78 (.slice (some ⟨Y, 0, none⟩) 1 1) 1 [.slice (some ⟨c.A, 0, none⟩) c.N NA, .int .i64 0, .pointer none, .slice (some ⟨c.A, 0, none⟩) c.N NA, .int .i64 0, .int .i64 0] Vg17a1) := by rw [← hVg17a1, ← hY]; exact src6 _ _ _ _ _ _ _ (by simp [Value.oneCell'])
          have c2v : Vg17a1.cell? ⟨c.m, 2, none⟩ = some g3.v2 := HKVg17a1.out.cell' c2 id
          refine wpAnyH_ready (rs := [8]) (by kernel_rfl) (by simp) ?_
          refine AllReadyH.cons (o := { dst := some 140, op := Go.Op.buildSlice 78 1 #[(0, Go.Operand.tmp 139)], type := 78, pos := "law.go:369", after := #[{ on := 7, ground := Go.Ground.data }], guard := none }) rfl (fun Kc hK => ?_) AllReadyH.nil
          go_simp
          refine hK.out _ _ (⟨HKVg17a1.out.cell' bX90 id, HKVg17a1.out.cell' bX91 id, HKVg17a1.out.cell' bX92 id, HKVg17a1.out.cell' bX100 id, HKVg17a1.out.cell' bX101 id⟩) (fun hHeld => ?_)
          clear hK Kc
          (try simp only [Act.put]); (try simp only [List.setIfInBounds_toArray]); (try simp only [List.set_cons_succ]); (try simp only [List.set_cons_zero])
          clear hVg17a1 hY
          refine wpAnyH_ready (rs := [9]) (by kernel_rfl) (by simp) ?_
          refine AllReadyH.cons (o := { dst := some 141, op := Go.Op.call { callee := Go.Callee.builtin Go.Builtin.append, args := #[Go.Operand.tmp 136, Go.Operand.tmp 140], argTypes := #[78, 78] }, type := 78, pos := "law.go:369", after := #[{ on := 4, ground := Go.Ground.data }, { on := 8, ground := Go.Ground.data }], guard := none }) rfl (fun Kc hK => ?_) AllReadyH.nil
          refine step_append_anyN (P := Try.prog) _ rfl (.tmp 136) (.tmp 140) 78 78 rfl 93 (.agg #[.slice none 0 0, .int .i64 0, .pointer none, .slice none 0 0, .int .i64 0, .int .i64 0]) 6 80 Try.underlying78 info93 rfl g3.v2 g3.S.length (g3.S.flatMap (snC c)) rfl (ownN_kept HOl.out HKVg17a1.out fun _ _ => id) (.slice (some ⟨Y, 0, none⟩) 1 1) 1 [.slice (some ⟨c.A, 0, none⟩) c.N NA, .int .i64 0, .pointer none, .slice (some ⟨c.A, 0, none⟩) c.N NA, .int .i64 0, .int .i64 0] rfl HSr.out (by omega) (by omega) ?_
          intro v' w7 ha1 ha2 ha3
          obtain ⟨uo, uc, rfl⟩ := ownN_form ha1
          obtain ⟨p1, p2, hrd⟩ := RowDone.grown (w := W16) (off := 2) (by decide) HKVg17a1.out HG16.out.inv.room rfl (fun g' e e2 => absurd (e2 ▸ e) (ownN_ne (by decide) HG16.out.inv.room HOl.out)) ha1 ha2 ha3
          obtain ⟨v2', hgo⟩ := HG16.out.inv.join (s := ⟨some ⟨c.A, 0, none⟩, c.N, NA, 0, some ⟨c.A, 0, none⟩, NA, 0⟩) hrd
          have hgr := Keeps.ofGrown ha2
          have HH7 : Hid (w7.cell? ⟨X9, 0, none⟩ = some (.slice (some ⟨c.A, 0, none⟩) c.N NA) ∧ w7.cell? ⟨X9, 1, none⟩ = some (.int .i64 0) ∧ w7.cell? ⟨X9, 2, none⟩ = some (.pointer none) ∧ w7.cell? ⟨X10, 0, none⟩ = some (.slice (some ⟨c.A, 0, none⟩) c.N NA) ∧ w7.cell? ⟨X10, 1, none⟩ = some (.int .i64 0)) := ⟨hgr.cell' (HKVg17a1.out.cell' bX90 id) (fun e => HR9.out.2 .seen e), hgr.cell' (HKVg17a1.out.cell' bX91 id) (fun e => HR9.out.2 .seen e), hgr.cell' (HKVg17a1.out.cell' bX92 id) (fun e => HR9.out.2 .seen e), hgr.cell' (HKVg17a1.out.cell' bX100 id) (fun e => HR10.out.2 .seen e), hgr.cell' (HKVg17a1.out.cell' bX101 id) (fun e => HR10.out.2 .seen e)⟩
          obtain ⟨zX90, zX91, zX92⟩ := boxCells3 (hgo.box HR9.out.1 HR9.out.2).1
          obtain ⟨zX100, zX101⟩ := boxCells2 (hgo.box HR10.out.1 HR10.out.2).1
          have HH8 : Hid ((w7.setCell ⟨c.m, 2, none⟩ (.slice uo (g3.S.length + 1) uc)).cell? ⟨X9, 0, none⟩ = some (.slice (some ⟨c.A, 0, none⟩) c.N NA) ∧ (w7.setCell ⟨c.m, 2, none⟩ (.slice uo (g3.S.length + 1) uc)).cell? ⟨X9, 1, none⟩ = some (.int .i64 0) ∧ (w7.setCell ⟨c.m, 2, none⟩ (.slice uo (g3.S.length + 1) uc)).cell? ⟨X9, 2, none⟩ = some (.pointer none) ∧ (w7.setCell ⟨c.m, 2, none⟩ (.slice uo (g3.S.length + 1) uc)).cell? ⟨X10, 0, none⟩ = some (.slice (some ⟨c.A, 0, none⟩) c.N NA) ∧ (w7.setCell ⟨c.m, 2, none⟩ (.slice uo (g3.S.length + 1) uc)).cell? ⟨X10, 1, none⟩ = some (.int .i64 0)) := ⟨zX90, zX91, zX92, zX100, zX101⟩
          have HGO := hidM hgo
          clear zX90 zX91 zX92 zX100 zX101 ha1 ha2 ha3 hrd hgo hgr
          refine hK.out _ _ HH7.out (fun hHeld => ?_)
          clear hK Kc
          (try simp only [Act.put]); (try simp only [List.setIfInBounds_toArray]); (try simp only [List.set_cons_succ]); (try simp only [List.set_cons_zero])
          refine wpAnyH_take (i := 10) (oi := { dst := some 142, op := Go.Op.nilCheck (Go.Operand.tmp 132), type := 0, pos := "law.go:369", after := #[{ on := 0, ground := Go.Ground.data }, { on := 0, ground := Go.Ground.phase }, { on := 1, ground := Go.Ground.phase }, { on := 2, ground := Go.Ground.phase }, { on := 3, ground := Go.Ground.phase }, { on := 4, ground := Go.Ground.phase }, { on := 5, ground := Go.Ground.phase }, { on := 6, ground := Go.Ground.phase }, { on := 7, ground := Go.Ground.phase }, { on := 8, ground := Go.Ground.phase }, { on := 9, ground := Go.Ground.phase }], guard := none }) (v := ?v10g17a1) rfl (by kernel_rfl) (by kernel_rfl) (by kernel_rfl) (fun _ _ _ h => h) (Or.inl ⟨by rfl, ?y10g17a1⟩) (by assumption) ?r10g17a1
          case y10g17a1 => (intro w hSw; obtain ⟨s0, s1, s2, s3, s4⟩ := hSw; go_simp; (try with_reducible rfl))
          (try simp only [Act.put]); (try simp only [List.setIfInBounds_toArray]); (try simp only [List.set_cons_succ]); (try simp only [List.set_cons_zero])
          refine wpAnyH_take (i := 11) (oi := { dst := some 143, op := Go.Op.fieldAddr 87 (Go.Operand.tmp 142) 2, type := 0, pos := "law.go:369", after := #[{ on := 10, ground := Go.Ground.data }, { on := 0, ground := Go.Ground.phase }, { on := 1, ground := Go.Ground.phase }, { on := 2, ground := Go.Ground.phase }, { on := 3, ground := Go.Ground.phase }, { on := 4, ground := Go.Ground.phase }, { on := 5, ground := Go.Ground.phase }, { on := 6, ground := Go.Ground.phase }, { on := 7, ground := Go.Ground.phase }, { on := 8, ground := Go.Ground.phase }, { on := 9, ground := Go.Ground.phase }], guard := none }) (v := ?v11g17a2) rfl (by kernel_rfl) (by kernel_rfl) (by kernel_rfl) (fun _ _ _ h => h) (Or.inl ⟨by rfl, ?y11g17a2⟩) (by assumption) ?r11g17a2
          case y11g17a2 => (intro w hSw; obtain ⟨s0, s1, s2, s3, s4⟩ := hSw; go_simp; (try with_reducible rfl))
          (try simp only [Act.put]); (try simp only [List.setIfInBounds_toArray]); (try simp only [List.set_cons_succ]); (try simp only [List.set_cons_zero])
          refine wpAnyH_ready (rs := [12]) (by kernel_rfl) (by simp) ?_
          refine AllReadyH.cons (o := { dst := none, op := Go.Op.store 78 (Go.Operand.tmp 143) (Go.Operand.tmp 141), type := 0, pos := "law.go:369", after := #[{ on := 11, ground := Go.Ground.data }, { on := 9, ground := Go.Ground.data }, { on := 9, ground := Go.Ground.chain }, { on := 0, ground := Go.Ground.phase }, { on := 1, ground := Go.Ground.phase }, { on := 2, ground := Go.Ground.phase }, { on := 3, ground := Go.Ground.phase }, { on := 4, ground := Go.Ground.phase }, { on := 5, ground := Go.Ground.phase }, { on := 6, ground := Go.Ground.phase }, { on := 7, ground := Go.Ground.phase }, { on := 8, ground := Go.Ground.phase }, { on := 9, ground := Go.Ground.phase }], guard := none }) rfl (fun Kc hK => ?_) AllReadyH.nil
          go_simp
          refine hK.out _ _ HH8.out (fun hHeld => ?_)
          clear hK Kc
          (try simp only [Act.put]); (try simp only [List.setIfInBounds_toArray]); (try simp only [List.set_cons_succ]); (try simp only [List.set_cons_zero])
          refine wpAnyH_done (by kernel_rfl) ?_ _
          clear hHeld
          obtain ⟨Wf, hWf⟩ : ∃ Wf, w7.setCell ⟨c.m, 2, none⟩ (.slice uo (g3.S.length + 1) uc) = Wf := ⟨_, rfl⟩
          have hgo := HGO.out
          rw [hWf] at hgo ⊢
          exact key Y uo uc Wf ⟨v2', hgo⟩
        · obtain ⟨Vg17b1, hVg17b1⟩ : ∃ V, U0.alloc (.cells #[.slice (some ⟨c.A, 0, none⟩) c.N NA, .int .i64 0, .pointer none, .slice (some ⟨c.A, 0, none⟩) c.N NA, .int .i64 0, .int .i64 0] 93) = V := ⟨_, rfl⟩
          obtain ⟨Y, hY⟩ : ∃ X, U0.heap.size = X := ⟨_, rfl⟩
          have HKVg17b1 : Hid (Keeps W16 Vg17b1 (fun _ => False)) := by rw [← hVg17b1]; exact HKU0.out.alloc _
          have HSr : Hid (Src Try.prog 6 78 (.slice (some ⟨Y, 0, none⟩) 1 1) 1 [.slice (some ⟨c.A, 0, none⟩) c.N NA, .int .i64 0, .pointer none, .slice (some ⟨c.A, 0, none⟩) c.N NA, .int .i64 0, .int .i64 0] Vg17b1) := by rw [← hVg17b1, ← hY]; exact src6 _ _ _ _ _ _ _ (by simp [Value.oneCell'])
          have c2v : Vg17b1.cell? ⟨c.m, 2, none⟩ = some g3.v2 := HKVg17b1.out.cell' c2 id
          go_simp
          refine hK.out _ _ (⟨HKVg17b1.out.cell' bX90 id, HKVg17b1.out.cell' bX91 id, HKVg17b1.out.cell' bX92 id, HKVg17b1.out.cell' bX100 id, HKVg17b1.out.cell' bX101 id⟩) (fun hHeld => ?_)
          clear hK Kc
          (try simp only [Act.put]); (try simp only [List.setIfInBounds_toArray]); (try simp only [List.set_cons_succ]); (try simp only [List.set_cons_zero])
          clear hVg17b1 hY
          refine wpAnyH_ready (rs := [4]) (by kernel_rfl) (by simp) ?_
          refine AllReadyH.cons (o := { dst := some 136, op := Go.Op.load 78 (Go.Operand.tmp 135), type := 78, pos := "law.go:369", after := #[{ on := 3, ground := Go.Ground.data }], guard := none }) rfl (fun Kc hK => ?_) AllReadyH.nil
          go_simp
          refine hK.out _ _ (⟨HKVg17b1.out.cell' bX90 id, HKVg17b1.out.cell' bX91 id, HKVg17b1.out.cell' bX92 id, HKVg17b1.out.cell' bX100 id, HKVg17b1.out.cell' bX101 id⟩) (fun hHeld => ?_)
          clear hK Kc
          (try simp only [Act.put]); (try simp only [List.setIfInBounds_toArray]); (try simp only [List.set_cons_succ]); (try simp only [List.set_cons_zero])
          refine wpAnyH_ready (rs := [9]) (by kernel_rfl) (by simp) ?_
          refine AllReadyH.cons (o := { dst := some 141, op := Go.Op.call { callee := Go.Callee.builtin Go.Builtin.append, args := #[Go.Operand.tmp 136, Go.Operand.tmp 140], argTypes := #[78, 78] }, type := 78, pos := "law.go:369", after := #[{ on := 4, ground := Go.Ground.data }, { on := 8, ground := Go.Ground.data }], guard := none }) rfl (fun Kc hK => ?_) AllReadyH.nil
          refine step_append_anyN (P := Try.prog) _ rfl (.tmp 136) (.tmp 140) 78 78 rfl 93 (.agg #[.slice none 0 0, .int .i64 0, .pointer none, .slice none 0 0, .int .i64 0, .int .i64 0]) 6 80 Try.underlying78 info93 rfl g3.v2 g3.S.length (g3.S.flatMap (snC c)) rfl (ownN_kept HOl.out HKVg17b1.out fun _ _ => id) (.slice (some ⟨Y, 0, none⟩) 1 1) 1 [.slice (some ⟨c.A, 0, none⟩) c.N NA, .int .i64 0, .pointer none, .slice (some ⟨c.A, 0, none⟩) c.N NA, .int .i64 0, .int .i64 0] rfl HSr.out (by omega) (by omega) ?_
          intro v' w7 ha1 ha2 ha3
          obtain ⟨uo, uc, rfl⟩ := ownN_form ha1
          obtain ⟨p1, p2, hrd⟩ := RowDone.grown (w := W16) (off := 2) (by decide) HKVg17b1.out HG16.out.inv.room rfl (fun g' e e2 => absurd (e2 ▸ e) (ownN_ne (by decide) HG16.out.inv.room HOl.out)) ha1 ha2 ha3
          obtain ⟨v2', hgo⟩ := HG16.out.inv.join (s := ⟨some ⟨c.A, 0, none⟩, c.N, NA, 0, some ⟨c.A, 0, none⟩, NA, 0⟩) hrd
          have hgr := Keeps.ofGrown ha2
          have HH7 : Hid (w7.cell? ⟨X9, 0, none⟩ = some (.slice (some ⟨c.A, 0, none⟩) c.N NA) ∧ w7.cell? ⟨X9, 1, none⟩ = some (.int .i64 0) ∧ w7.cell? ⟨X9, 2, none⟩ = some (.pointer none) ∧ w7.cell? ⟨X10, 0, none⟩ = some (.slice (some ⟨c.A, 0, none⟩) c.N NA) ∧ w7.cell? ⟨X10, 1, none⟩ = some (.int .i64 0)) := ⟨hgr.cell' (HKVg17b1.out.cell' bX90 id) (fun e => HR9.out.2 .seen e), hgr.cell' (HKVg17b1.out.cell' bX91 id) (fun e => HR9.out.2 .seen e), hgr.cell' (HKVg17b1.out.cell' bX92 id) (fun e => HR9.out.2 .seen e), hgr.cell' (HKVg17b1.out.cell' bX100 id) (fun e => HR10.out.2 .seen e), hgr.cell' (HKVg17b1.out.cell' bX101 id) (fun e => HR10.out.2 .seen e)⟩
          obtain ⟨zX90, zX91, zX92⟩ := boxCells3 (hgo.box HR9.out.1 HR9.out.2).1
          obtain ⟨zX100, zX101⟩ := boxCells2 (hgo.box HR10.out.1 HR10.out.2).1
          have HH8 : Hid ((w7.setCell ⟨c.m, 2, none⟩ (.slice uo (g3.S.length + 1) uc)).cell? ⟨X9, 0, none⟩ = some (.slice (some ⟨c.A, 0, none⟩) c.N NA) ∧ (w7.setCell ⟨c.m, 2, none⟩ (.slice uo (g3.S.length + 1) uc)).cell? ⟨X9, 1, none⟩ = some (.int .i64 0) ∧ (w7.setCell ⟨c.m, 2, none⟩ (.slice uo (g3.S.length + 1) uc)).cell? ⟨X9, 2, none⟩ = some (.pointer none) ∧ (w7.setCell ⟨c.m, 2, none⟩ (.slice uo (g3.S.length + 1) uc)).cell? ⟨X10, 0, none⟩ = some (.slice (some ⟨c.A, 0, none⟩) c.N NA) ∧ (w7.setCell ⟨c.m, 2, none⟩ (.slice uo (g3.S.length + 1) uc)).cell? ⟨X10, 1, none⟩ = some (.int .i64 0)) := ⟨zX90, zX91, zX92, zX100, zX101⟩
          have HGO := hidM hgo
          clear zX90 zX91 zX92 zX100 zX101 ha1 ha2 ha3 hrd hgo hgr
          refine hK.out _ _ HH7.out (fun hHeld => ?_)
          clear hK Kc
          (try simp only [Act.put]); (try simp only [List.setIfInBounds_toArray]); (try simp only [List.set_cons_succ]); (try simp only [List.set_cons_zero])
          refine wpAnyH_take (i := 10) (oi := { dst := some 142, op := Go.Op.nilCheck (Go.Operand.tmp 132), type := 0, pos := "law.go:369", after := #[{ on := 0, ground := Go.Ground.data }, { on := 0, ground := Go.Ground.phase }, { on := 1, ground := Go.Ground.phase }, { on := 2, ground := Go.Ground.phase }, { on := 3, ground := Go.Ground.phase }, { on := 4, ground := Go.Ground.phase }, { on := 5, ground := Go.Ground.phase }, { on := 6, ground := Go.Ground.phase }, { on := 7, ground := Go.Ground.phase }, { on := 8, ground := Go.Ground.phase }, { on := 9, ground := Go.Ground.phase }], guard := none }) (v := ?v10g17b1) rfl (by kernel_rfl) (by kernel_rfl) (by kernel_rfl) (fun _ _ _ h => h) (Or.inl ⟨by rfl, ?y10g17b1⟩) (by assumption) ?r10g17b1
          case y10g17b1 => (intro w hSw; obtain ⟨s0, s1, s2, s3, s4⟩ := hSw; go_simp; (try with_reducible rfl))
          (try simp only [Act.put]); (try simp only [List.setIfInBounds_toArray]); (try simp only [List.set_cons_succ]); (try simp only [List.set_cons_zero])
          refine wpAnyH_take (i := 11) (oi := { dst := some 143, op := Go.Op.fieldAddr 87 (Go.Operand.tmp 142) 2, type := 0, pos := "law.go:369", after := #[{ on := 10, ground := Go.Ground.data }, { on := 0, ground := Go.Ground.phase }, { on := 1, ground := Go.Ground.phase }, { on := 2, ground := Go.Ground.phase }, { on := 3, ground := Go.Ground.phase }, { on := 4, ground := Go.Ground.phase }, { on := 5, ground := Go.Ground.phase }, { on := 6, ground := Go.Ground.phase }, { on := 7, ground := Go.Ground.phase }, { on := 8, ground := Go.Ground.phase }, { on := 9, ground := Go.Ground.phase }], guard := none }) (v := ?v11g17b2) rfl (by kernel_rfl) (by kernel_rfl) (by kernel_rfl) (fun _ _ _ h => h) (Or.inl ⟨by rfl, ?y11g17b2⟩) (by assumption) ?r11g17b2
          case y11g17b2 => (intro w hSw; obtain ⟨s0, s1, s2, s3, s4⟩ := hSw; go_simp; (try with_reducible rfl))
          (try simp only [Act.put]); (try simp only [List.setIfInBounds_toArray]); (try simp only [List.set_cons_succ]); (try simp only [List.set_cons_zero])
          refine wpAnyH_ready (rs := [12]) (by kernel_rfl) (by simp) ?_
          refine AllReadyH.cons (o := { dst := none, op := Go.Op.store 78 (Go.Operand.tmp 143) (Go.Operand.tmp 141), type := 0, pos := "law.go:369", after := #[{ on := 11, ground := Go.Ground.data }, { on := 9, ground := Go.Ground.data }, { on := 9, ground := Go.Ground.chain }, { on := 0, ground := Go.Ground.phase }, { on := 1, ground := Go.Ground.phase }, { on := 2, ground := Go.Ground.phase }, { on := 3, ground := Go.Ground.phase }, { on := 4, ground := Go.Ground.phase }, { on := 5, ground := Go.Ground.phase }, { on := 6, ground := Go.Ground.phase }, { on := 7, ground := Go.Ground.phase }, { on := 8, ground := Go.Ground.phase }, { on := 9, ground := Go.Ground.phase }], guard := none }) rfl (fun Kc hK => ?_) AllReadyH.nil
          go_simp
          refine hK.out _ _ HH8.out (fun hHeld => ?_)
          clear hK Kc
          (try simp only [Act.put]); (try simp only [List.setIfInBounds_toArray]); (try simp only [List.set_cons_succ]); (try simp only [List.set_cons_zero])
          refine wpAnyH_done (by kernel_rfl) ?_ _
          clear hHeld
          obtain ⟨Wf, hWf⟩ : ∃ Wf, w7.setCell ⟨c.m, 2, none⟩ (.slice uo (g3.S.length + 1) uc) = Wf := ⟨_, rfl⟩
          have hgo := HGO.out
          rw [hWf] at hgo ⊢
          exact key Y uo uc Wf ⟨v2', hgo⟩
      rintro Yn17 uon17 ucn17 W17 ⟨v2n17, hg⟩
      obtain ⟨g4, hgn⟩ : ∃ g', g' = ({ g3 with v2 := v2n17, S := g3.S ++ [⟨some ⟨c.A, 0, none⟩, c.N, NA, 0, some ⟨c.A, 0, none⟩, NA, 0⟩] } : Gh) := ⟨_, rfl⟩
      rw [← hgn] at hg
      have HGg4 := hidM hgn
      have HG17 := hidM (HG16.out.trans hg (fun _ f => f.elim))
      replace HR9 := hidM (hg.box HR9.out.1 HR9.out.2)
      replace HR10 := hidM (hg.box HR10.out.1 HR10.out.2)
      clear hg hgn HG16 HOl c2 bX90 bX91 bX92 bX100 bX101
      have HS4 : Hid (g4.S = [⟨some ⟨c.A, 0, none⟩, c.N, NA, 0, some ⟨c.A, 0, none⟩, NA, 1⟩, ⟨some ⟨c.A, 0, none⟩, c.N, NA, 0, some ⟨c.A, 0, none⟩, NA, 0⟩]) := hidM (by rw [HGg4.out]; show g3.S ++ _ = _; rw [HS3.out]; rfl)
      have hSl4 : g4.S.length ≤ 3 := by rw [HS4.out]; simp
      clear HR10
      go_wp2_with fail
      obtain ⟨W18, hW18⟩ : ∃ W, W17.alloc (.cells #[.slice none 0 0, .int .i64 0, .pointer none] 37) = W := ⟨_, rfl⟩
      obtain ⟨X11, hX11⟩ : ∃ X, W17.heap.size = X := ⟨_, rfl⟩
      have hk18 : Keeps W17 W18 (fun _ => False) := by rw [← hW18]; exact (Keeps.refl _ _).alloc _
      have HR11 : Hid (W18.heap[X11]? = some (.cells #[.slice none 0 0, .int .i64 0, .pointer none] 37 (0, 0)) ∧ ∀ i, ¬ ft c g4 i X11) := ⟨by rw [← hW18, ← hX11]; exact heap_alloc_new _ _, HG17.out.inv.out (by omega)⟩
      replace HR9 := hidM (And.intro (hk18.row HR9.out.1 id) HR9.out.2)
      have HG18 := hidM (HG17.out.trans (HG17.out.inv.rest0 hk18) (fun _ f => f.elim))
      rw [hW18, hX11]
      clear hW18 hX11 hk18 HG17
      obtain ⟨bX110, bX111, bX112⟩ := boxCells3 HR11.out.1
      have c2 : W18.cell? ⟨c.m, 2, none⟩ = some g4.v2 := HG18.out.inv.cell rfl
      have HOl : Hid (W18.ownsRow 0 93 6 g4.v2 g4.S.length (g4.S.flatMap (snC c))) := HG18.out.inv.cm .seen
      skip
      refine' share3 (fun (Y : Nat) (uo : Option Addr) (uc : Nat) (w' : World) => ∃ v', Go c NoF W18 g4 w' { g4 with v2 := v', S := g4.S ++ [⟨none, 0, 0, 0, none, 0, 0⟩] }) ?_ ?_
      rotate_left 1
      · intro key
        obtain ⟨U0, hU0⟩ : ∃ U0, W18.drew = U0 := ⟨_, rfl⟩
        have HKU0 : Hid (Keeps W18 U0 (fun _ => False)) := by rw [← hU0]; exact (Keeps.refl _ _).drew
        refine wp_region_held_drew (S := fun w' => w'.cell? ⟨X11, 0, none⟩ = some (.slice none 0 0) ∧ w'.cell? ⟨X11, 1, none⟩ = some (.int .i64 0) ∧ w'.cell? ⟨X11, 2, none⟩ = some (.pointer none)) (by kernel_rfl) (by rw [hU0]; exact ⟨HKU0.out.cell' bX110 id, HKU0.out.cell' bX111 id, HKU0.out.cell' bX112 id⟩) (fun hHeld => ?_)
        rw [hU0] at hHeld ⊢
        clear hU0
        have c2u : U0.cell? ⟨c.m, 2, none⟩ = some g4.v2 := HKU0.out.cell' c2 id
        refine wpAnyH_take (i := 0) (oi := { dst := some 144, op := Go.Op.move (Go.Operand.tmp 4), type := 24, pos := "law.go:371", after := #[], guard := none }) (v := ?v0g191) rfl (by kernel_rfl) (by kernel_rfl) (by kernel_rfl) (fun _ _ _ h => h) (Or.inl ⟨by rfl, ?y0g191⟩) (by assumption) ?r0g191
        case y0g191 => (intro w hSw; obtain ⟨s0, s1, s2⟩ := hSw; go_simp; (try with_reducible rfl))
        (try simp only [Act.put]); (try simp only [List.setIfInBounds_toArray]); (try simp only [List.set_cons_succ]); (try simp only [List.set_cons_zero])
        refine wpAnyH_take (i := 1) (oi := { dst := some 145, op := Go.Op.move (Go.Operand.tmp 4), type := 24, pos := "law.go:371", after := #[], guard := none }) (v := ?v1g192) rfl (by kernel_rfl) (by kernel_rfl) (by kernel_rfl) (fun _ _ _ h => h) (Or.inl ⟨by rfl, ?y1g192⟩) (by assumption) ?r1g192
        case y1g192 => (intro w hSw; obtain ⟨s0, s1, s2⟩ := hSw; go_simp; (try with_reducible rfl))
        (try simp only [Act.put]); (try simp only [List.setIfInBounds_toArray]); (try simp only [List.set_cons_succ]); (try simp only [List.set_cons_zero])
        refine wpAnyH_take (i := 2) (oi := { dst := some 146, op := Go.Op.nilCheck (Go.Operand.tmp 145), type := 0, pos := "law.go:371", after := #[{ on := 1, ground := Go.Ground.data }], guard := none }) (v := ?v2g193) rfl (by kernel_rfl) (by kernel_rfl) (by kernel_rfl) (fun _ _ _ h => h) (Or.inl ⟨by rfl, ?y2g193⟩) (by assumption) ?r2g193
        case y2g193 => (intro w hSw; obtain ⟨s0, s1, s2⟩ := hSw; go_simp; (try with_reducible rfl))
        (try simp only [Act.put]); (try simp only [List.setIfInBounds_toArray]); (try simp only [List.set_cons_succ]); (try simp only [List.set_cons_zero])
        refine wpAnyH_take (i := 3) (oi := { dst := some 147, op := Go.Op.fieldAddr 87 (Go.Operand.tmp 146) 2, type := 0, pos := "law.go:371", after := #[{ on := 2, ground := Go.Ground.data }], guard := none }) (v := ?v3g194) rfl (by kernel_rfl) (by kernel_rfl) (by kernel_rfl) (fun _ _ _ h => h) (Or.inl ⟨by rfl, ?y3g194⟩) (by assumption) ?r3g194
        case y3g194 => (intro w hSw; obtain ⟨s0, s1, s2⟩ := hSw; go_simp; (try with_reducible rfl))
        (try simp only [Act.put]); (try simp only [List.setIfInBounds_toArray]); (try simp only [List.set_cons_succ]); (try simp only [List.set_cons_zero])
        refine wpAnyH_take (i := 5) (oi := { dst := some 149, op := Go.Op.load 37 (Go.Operand.tmp 11), type := 37, pos := "law.go:371", after := #[], guard := none }) (v := ?v5g195) rfl (by kernel_rfl) (by kernel_rfl) (by kernel_rfl) (fun _ _ _ h => h) (Or.inl ⟨by rfl, ?y5g195⟩) (by assumption) ?r5g195
        case y5g195 => (intro w hSw; obtain ⟨s0, s1, s2⟩ := hSw; go_simp; (try with_reducible rfl))
        (try simp only [Act.put]); (try simp only [List.setIfInBounds_toArray]); (try simp only [List.set_cons_succ]); (try simp only [List.set_cons_zero])
        refine wpAnyH_take (i := 6) (oi := { dst := some 150, op := Go.Op.build 93 #[(0, Go.Operand.tmp 149)], type := 93, pos := "law.go:371", after := #[{ on := 5, ground := Go.Ground.data }], guard := none }) (v := ?v6g196) rfl (by kernel_rfl) (by kernel_rfl) (by kernel_rfl) (fun _ _ _ h => h) (Or.inl ⟨by rfl, ?y6g196⟩) (by assumption) ?r6g196
        case y6g196 => (intro w hSw; obtain ⟨s0, s1, s2⟩ := hSw; go_simp; (try with_reducible rfl))
        (try simp only [Act.put]); (try simp only [List.setIfInBounds_toArray]); (try simp only [List.set_cons_succ]); (try simp only [List.set_cons_zero])
        refine wpAnyH_ready (rs := [4, 7]) (by kernel_rfl) (by simp) ?_
        refine AllReadyH.cons (o := { dst := some 148, op := Go.Op.load 78 (Go.Operand.tmp 147), type := 78, pos := "law.go:371", after := #[{ on := 3, ground := Go.Ground.data }], guard := none }) rfl (fun Kc hK => ?_) (AllReadyH.cons (o := { dst := some 151, op := Go.Op.buildSlice 78 1 #[(0, Go.Operand.tmp 150)], type := 78, pos := "law.go:371", after := #[{ on := 6, ground := Go.Ground.data }], guard := none }) rfl (fun Kc hK => ?_) AllReadyH.nil)
        · go_simp
          refine hK.out _ _ (⟨HKU0.out.cell' bX110 id, HKU0.out.cell' bX111 id, HKU0.out.cell' bX112 id⟩) (fun hHeld => ?_)
          clear hK Kc
          (try simp only [Act.put]); (try simp only [List.setIfInBounds_toArray]); (try simp only [List.set_cons_succ]); (try simp only [List.set_cons_zero])
          obtain ⟨Vg19a1, hVg19a1⟩ : ∃ V, U0.alloc (.cells #[.slice none 0 0, .int .i64 0, .pointer none, .slice none 0 0, .int .i64 0, .int .i64 0] 93) = V := ⟨_, rfl⟩
          obtain ⟨Y, hY⟩ : ∃ X, U0.heap.size = X := ⟨_, rfl⟩
          have HKVg19a1 : Hid (Keeps W18 Vg19a1 (fun _ => False)) := by rw [← hVg19a1]; exact HKU0.out.alloc _
          have HSr : Hid (Src Try.prog 6 78 (.slice (some ⟨Y, 0, none⟩) 1 1) 1 [.slice none 0 0, .int .i64 0, .pointer none, .slice none 0 0, .int .i64 0, .int .i64 0] Vg19a1) := by rw [← hVg19a1, ← hY]; exact src6 _ _ _ _ _ _ _ (by simp [Value.oneCell'])
          have c2v : Vg19a1.cell? ⟨c.m, 2, none⟩ = some g4.v2 := HKVg19a1.out.cell' c2 id
          refine wpAnyH_ready (rs := [7]) (by kernel_rfl) (by simp) ?_
          refine AllReadyH.cons (o := { dst := some 151, op := Go.Op.buildSlice 78 1 #[(0, Go.Operand.tmp 150)], type := 78, pos := "law.go:371", after := #[{ on := 6, ground := Go.Ground.data }], guard := none }) rfl (fun Kc hK => ?_) AllReadyH.nil
          go_simp
          refine hK.out _ _ (⟨HKVg19a1.out.cell' bX110 id, HKVg19a1.out.cell' bX111 id, HKVg19a1.out.cell' bX112 id⟩) (fun hHeld => ?_)
          clear hK Kc
          (try simp only [Act.put]); (try simp only [List.setIfInBounds_toArray]); (try simp only [List.set_cons_succ]); (try simp only [List.set_cons_zero])
          clear hVg19a1 hY
          refine wpAnyH_ready (rs := [8]) (by kernel_rfl) (by simp) ?_
          refine AllReadyH.cons (o := { dst := some 152, op := Go.Op.call { callee := Go.Callee.builtin Go.Builtin.append, args := #[Go.Operand.tmp 148, Go.Operand.tmp 151], argTypes := #[78, 78] }, type := 78, pos := "law.go:371", after := #[{ on := 4, ground := Go.Ground.data }, { on := 7, ground := Go.Ground.data }], guard := none }) rfl (fun Kc hK => ?_) AllReadyH.nil
          refine step_append_anyN (P := Try.prog) _ rfl (.tmp 148) (.tmp 151) 78 78 rfl 93 (.agg #[.slice none 0 0, .int .i64 0, .pointer none, .slice none 0 0, .int .i64 0, .int .i64 0]) 6 80 Try.underlying78 info93 rfl g4.v2 g4.S.length (g4.S.flatMap (snC c)) rfl (ownN_kept HOl.out HKVg19a1.out fun _ _ => id) (.slice (some ⟨Y, 0, none⟩) 1 1) 1 [.slice none 0 0, .int .i64 0, .pointer none, .slice none 0 0, .int .i64 0, .int .i64 0] rfl HSr.out (by omega) (by omega) ?_
          intro v' w7 ha1 ha2 ha3
          obtain ⟨uo, uc, rfl⟩ := ownN_form ha1
          obtain ⟨p1, p2, hrd⟩ := RowDone.grown (w := W18) (off := 2) (by decide) HKVg19a1.out HG18.out.inv.room rfl (fun g' e e2 => absurd (e2 ▸ e) (ownN_ne (by decide) HG18.out.inv.room HOl.out)) ha1 ha2 ha3
          obtain ⟨v2', hgo⟩ := HG18.out.inv.join (s := ⟨none, 0, 0, 0, none, 0, 0⟩) hrd
          have hgr := Keeps.ofGrown ha2
          have HH7 : Hid (w7.cell? ⟨X11, 0, none⟩ = some (.slice none 0 0) ∧ w7.cell? ⟨X11, 1, none⟩ = some (.int .i64 0) ∧ w7.cell? ⟨X11, 2, none⟩ = some (.pointer none)) := ⟨hgr.cell' (HKVg19a1.out.cell' bX110 id) (fun e => HR11.out.2 .seen e), hgr.cell' (HKVg19a1.out.cell' bX111 id) (fun e => HR11.out.2 .seen e), hgr.cell' (HKVg19a1.out.cell' bX112 id) (fun e => HR11.out.2 .seen e)⟩
          obtain ⟨zX110, zX111, zX112⟩ := boxCells3 (hgo.box HR11.out.1 HR11.out.2).1
          have HH8 : Hid ((w7.setCell ⟨c.m, 2, none⟩ (.slice uo (g4.S.length + 1) uc)).cell? ⟨X11, 0, none⟩ = some (.slice none 0 0) ∧ (w7.setCell ⟨c.m, 2, none⟩ (.slice uo (g4.S.length + 1) uc)).cell? ⟨X11, 1, none⟩ = some (.int .i64 0) ∧ (w7.setCell ⟨c.m, 2, none⟩ (.slice uo (g4.S.length + 1) uc)).cell? ⟨X11, 2, none⟩ = some (.pointer none)) := ⟨zX110, zX111, zX112⟩
          have HGO := hidM hgo
          clear zX110 zX111 zX112 ha1 ha2 ha3 hrd hgo hgr
          refine hK.out _ _ HH7.out (fun hHeld => ?_)
          clear hK Kc
          (try simp only [Act.put]); (try simp only [List.setIfInBounds_toArray]); (try simp only [List.set_cons_succ]); (try simp only [List.set_cons_zero])
          refine wpAnyH_take (i := 9) (oi := { dst := some 153, op := Go.Op.nilCheck (Go.Operand.tmp 144), type := 0, pos := "law.go:371", after := #[{ on := 0, ground := Go.Ground.data }, { on := 0, ground := Go.Ground.phase }, { on := 1, ground := Go.Ground.phase }, { on := 2, ground := Go.Ground.phase }, { on := 3, ground := Go.Ground.phase }, { on := 4, ground := Go.Ground.phase }, { on := 5, ground := Go.Ground.phase }, { on := 6, ground := Go.Ground.phase }, { on := 7, ground := Go.Ground.phase }, { on := 8, ground := Go.Ground.phase }], guard := none }) (v := ?v9g19a1) rfl (by kernel_rfl) (by kernel_rfl) (by kernel_rfl) (fun _ _ _ h => h) (Or.inl ⟨by rfl, ?y9g19a1⟩) (by assumption) ?r9g19a1
          case y9g19a1 => (intro w hSw; obtain ⟨s0, s1, s2⟩ := hSw; go_simp; (try with_reducible rfl))
          (try simp only [Act.put]); (try simp only [List.setIfInBounds_toArray]); (try simp only [List.set_cons_succ]); (try simp only [List.set_cons_zero])
          refine wpAnyH_take (i := 10) (oi := { dst := some 154, op := Go.Op.fieldAddr 87 (Go.Operand.tmp 153) 2, type := 0, pos := "law.go:371", after := #[{ on := 9, ground := Go.Ground.data }, { on := 0, ground := Go.Ground.phase }, { on := 1, ground := Go.Ground.phase }, { on := 2, ground := Go.Ground.phase }, { on := 3, ground := Go.Ground.phase }, { on := 4, ground := Go.Ground.phase }, { on := 5, ground := Go.Ground.phase }, { on := 6, ground := Go.Ground.phase }, { on := 7, ground := Go.Ground.phase }, { on := 8, ground := Go.Ground.phase }], guard := none }) (v := ?v10g19a2) rfl (by kernel_rfl) (by kernel_rfl) (by kernel_rfl) (fun _ _ _ h => h) (Or.inl ⟨by rfl, ?y10g19a2⟩) (by assumption) ?r10g19a2
          case y10g19a2 => (intro w hSw; obtain ⟨s0, s1, s2⟩ := hSw; go_simp; (try with_reducible rfl))
          (try simp only [Act.put]); (try simp only [List.setIfInBounds_toArray]); (try simp only [List.set_cons_succ]); (try simp only [List.set_cons_zero])
          refine wpAnyH_ready (rs := [11]) (by kernel_rfl) (by simp) ?_
          refine AllReadyH.cons (o := { dst := none, op := Go.Op.store 78 (Go.Operand.tmp 154) (Go.Operand.tmp 152), type := 0, pos := "law.go:371", after := #[{ on := 10, ground := Go.Ground.data }, { on := 8, ground := Go.Ground.data }, { on := 8, ground := Go.Ground.chain }, { on := 0, ground := Go.Ground.phase }, { on := 1, ground := Go.Ground.phase }, { on := 2, ground := Go.Ground.phase }, { on := 3, ground := Go.Ground.phase }, { on := 4, ground := Go.Ground.phase }, { on := 5, ground := Go.Ground.phase }, { on := 6, ground := Go.Ground.phase }, { on := 7, ground := Go.Ground.phase }, { on := 8, ground := Go.Ground.phase }], guard := none }) rfl (fun Kc hK => ?_) AllReadyH.nil
          go_simp
          refine hK.out _ _ HH8.out (fun hHeld => ?_)
          clear hK Kc
          (try simp only [Act.put]); (try simp only [List.setIfInBounds_toArray]); (try simp only [List.set_cons_succ]); (try simp only [List.set_cons_zero])
          refine wpAnyH_done (by kernel_rfl) ?_ _
          clear hHeld
          obtain ⟨Wf, hWf⟩ : ∃ Wf, w7.setCell ⟨c.m, 2, none⟩ (.slice uo (g4.S.length + 1) uc) = Wf := ⟨_, rfl⟩
          have hgo := HGO.out
          rw [hWf] at hgo ⊢
          exact key Y uo uc Wf ⟨v2', hgo⟩
        · obtain ⟨Vg19b1, hVg19b1⟩ : ∃ V, U0.alloc (.cells #[.slice none 0 0, .int .i64 0, .pointer none, .slice none 0 0, .int .i64 0, .int .i64 0] 93) = V := ⟨_, rfl⟩
          obtain ⟨Y, hY⟩ : ∃ X, U0.heap.size = X := ⟨_, rfl⟩
          have HKVg19b1 : Hid (Keeps W18 Vg19b1 (fun _ => False)) := by rw [← hVg19b1]; exact HKU0.out.alloc _
          have HSr : Hid (Src Try.prog 6 78 (.slice (some ⟨Y, 0, none⟩) 1 1) 1 [.slice none 0 0, .int .i64 0, .pointer none, .slice none 0 0, .int .i64 0, .int .i64 0] Vg19b1) := by rw [← hVg19b1, ← hY]; exact src6 _ _ _ _ _ _ _ (by simp [Value.oneCell'])
          have c2v : Vg19b1.cell? ⟨c.m, 2, none⟩ = some g4.v2 := HKVg19b1.out.cell' c2 id
          go_simp
          refine hK.out _ _ (⟨HKVg19b1.out.cell' bX110 id, HKVg19b1.out.cell' bX111 id, HKVg19b1.out.cell' bX112 id⟩) (fun hHeld => ?_)
          clear hK Kc
          (try simp only [Act.put]); (try simp only [List.setIfInBounds_toArray]); (try simp only [List.set_cons_succ]); (try simp only [List.set_cons_zero])
          clear hVg19b1 hY
          refine wpAnyH_ready (rs := [4]) (by kernel_rfl) (by simp) ?_
          refine AllReadyH.cons (o := { dst := some 148, op := Go.Op.load 78 (Go.Operand.tmp 147), type := 78, pos := "law.go:371", after := #[{ on := 3, ground := Go.Ground.data }], guard := none }) rfl (fun Kc hK => ?_) AllReadyH.nil
          go_simp
          refine hK.out _ _ (⟨HKVg19b1.out.cell' bX110 id, HKVg19b1.out.cell' bX111 id, HKVg19b1.out.cell' bX112 id⟩) (fun hHeld => ?_)
          clear hK Kc
          (try simp only [Act.put]); (try simp only [List.setIfInBounds_toArray]); (try simp only [List.set_cons_succ]); (try simp only [List.set_cons_zero])
          refine wpAnyH_ready (rs := [8]) (by kernel_rfl) (by simp) ?_
          refine AllReadyH.cons (o := { dst := some 152, op := Go.Op.call { callee := Go.Callee.builtin Go.Builtin.append, args := #[Go.Operand.tmp 148, Go.Operand.tmp 151], argTypes := #[78, 78] }, type := 78, pos := "law.go:371", after := #[{ on := 4, ground := Go.Ground.data }, { on := 7, ground := Go.Ground.data }], guard := none }) rfl (fun Kc hK => ?_) AllReadyH.nil
          refine step_append_anyN (P := Try.prog) _ rfl (.tmp 148) (.tmp 151) 78 78 rfl 93 (.agg #[.slice none 0 0, .int .i64 0, .pointer none, .slice none 0 0, .int .i64 0, .int .i64 0]) 6 80 Try.underlying78 info93 rfl g4.v2 g4.S.length (g4.S.flatMap (snC c)) rfl (ownN_kept HOl.out HKVg19b1.out fun _ _ => id) (.slice (some ⟨Y, 0, none⟩) 1 1) 1 [.slice none 0 0, .int .i64 0, .pointer none, .slice none 0 0, .int .i64 0, .int .i64 0] rfl HSr.out (by omega) (by omega) ?_
          intro v' w7 ha1 ha2 ha3
          obtain ⟨uo, uc, rfl⟩ := ownN_form ha1
          obtain ⟨p1, p2, hrd⟩ := RowDone.grown (w := W18) (off := 2) (by decide) HKVg19b1.out HG18.out.inv.room rfl (fun g' e e2 => absurd (e2 ▸ e) (ownN_ne (by decide) HG18.out.inv.room HOl.out)) ha1 ha2 ha3
          obtain ⟨v2', hgo⟩ := HG18.out.inv.join (s := ⟨none, 0, 0, 0, none, 0, 0⟩) hrd
          have hgr := Keeps.ofGrown ha2
          have HH7 : Hid (w7.cell? ⟨X11, 0, none⟩ = some (.slice none 0 0) ∧ w7.cell? ⟨X11, 1, none⟩ = some (.int .i64 0) ∧ w7.cell? ⟨X11, 2, none⟩ = some (.pointer none)) := ⟨hgr.cell' (HKVg19b1.out.cell' bX110 id) (fun e => HR11.out.2 .seen e), hgr.cell' (HKVg19b1.out.cell' bX111 id) (fun e => HR11.out.2 .seen e), hgr.cell' (HKVg19b1.out.cell' bX112 id) (fun e => HR11.out.2 .seen e)⟩
          obtain ⟨zX110, zX111, zX112⟩ := boxCells3 (hgo.box HR11.out.1 HR11.out.2).1
          have HH8 : Hid ((w7.setCell ⟨c.m, 2, none⟩ (.slice uo (g4.S.length + 1) uc)).cell? ⟨X11, 0, none⟩ = some (.slice none 0 0) ∧ (w7.setCell ⟨c.m, 2, none⟩ (.slice uo (g4.S.length + 1) uc)).cell? ⟨X11, 1, none⟩ = some (.int .i64 0) ∧ (w7.setCell ⟨c.m, 2, none⟩ (.slice uo (g4.S.length + 1) uc)).cell? ⟨X11, 2, none⟩ = some (.pointer none)) := ⟨zX110, zX111, zX112⟩
          have HGO := hidM hgo
          clear zX110 zX111 zX112 ha1 ha2 ha3 hrd hgo hgr
          refine hK.out _ _ HH7.out (fun hHeld => ?_)
          clear hK Kc
          (try simp only [Act.put]); (try simp only [List.setIfInBounds_toArray]); (try simp only [List.set_cons_succ]); (try simp only [List.set_cons_zero])
          refine wpAnyH_take (i := 9) (oi := { dst := some 153, op := Go.Op.nilCheck (Go.Operand.tmp 144), type := 0, pos := "law.go:371", after := #[{ on := 0, ground := Go.Ground.data }, { on := 0, ground := Go.Ground.phase }, { on := 1, ground := Go.Ground.phase }, { on := 2, ground := Go.Ground.phase }, { on := 3, ground := Go.Ground.phase }, { on := 4, ground := Go.Ground.phase }, { on := 5, ground := Go.Ground.phase }, { on := 6, ground := Go.Ground.phase }, { on := 7, ground := Go.Ground.phase }, { on := 8, ground := Go.Ground.phase }], guard := none }) (v := ?v9g19b1) rfl (by kernel_rfl) (by kernel_rfl) (by kernel_rfl) (fun _ _ _ h => h) (Or.inl ⟨by rfl, ?y9g19b1⟩) (by assumption) ?r9g19b1
          case y9g19b1 => (intro w hSw; obtain ⟨s0, s1, s2⟩ := hSw; go_simp; (try with_reducible rfl))
          (try simp only [Act.put]); (try simp only [List.setIfInBounds_toArray]); (try simp only [List.set_cons_succ]); (try simp only [List.set_cons_zero])
          refine wpAnyH_take (i := 10) (oi := { dst := some 154, op := Go.Op.fieldAddr 87 (Go.Operand.tmp 153) 2, type := 0, pos := "law.go:371", after := #[{ on := 9, ground := Go.Ground.data }, { on := 0, ground := Go.Ground.phase }, { on := 1, ground := Go.Ground.phase }, { on := 2, ground := Go.Ground.phase }, { on := 3, ground := Go.Ground.phase }, { on := 4, ground := Go.Ground.phase }, { on := 5, ground := Go.Ground.phase }, { on := 6, ground := Go.Ground.phase }, { on := 7, ground := Go.Ground.phase }, { on := 8, ground := Go.Ground.phase }], guard := none }) (v := ?v10g19b2) rfl (by kernel_rfl) (by kernel_rfl) (by kernel_rfl) (fun _ _ _ h => h) (Or.inl ⟨by rfl, ?y10g19b2⟩) (by assumption) ?r10g19b2
          case y10g19b2 => (intro w hSw; obtain ⟨s0, s1, s2⟩ := hSw; go_simp; (try with_reducible rfl))
          (try simp only [Act.put]); (try simp only [List.setIfInBounds_toArray]); (try simp only [List.set_cons_succ]); (try simp only [List.set_cons_zero])
          refine wpAnyH_ready (rs := [11]) (by kernel_rfl) (by simp) ?_
          refine AllReadyH.cons (o := { dst := none, op := Go.Op.store 78 (Go.Operand.tmp 154) (Go.Operand.tmp 152), type := 0, pos := "law.go:371", after := #[{ on := 10, ground := Go.Ground.data }, { on := 8, ground := Go.Ground.data }, { on := 8, ground := Go.Ground.chain }, { on := 0, ground := Go.Ground.phase }, { on := 1, ground := Go.Ground.phase }, { on := 2, ground := Go.Ground.phase }, { on := 3, ground := Go.Ground.phase }, { on := 4, ground := Go.Ground.phase }, { on := 5, ground := Go.Ground.phase }, { on := 6, ground := Go.Ground.phase }, { on := 7, ground := Go.Ground.phase }, { on := 8, ground := Go.Ground.phase }], guard := none }) rfl (fun Kc hK => ?_) AllReadyH.nil
          go_simp
          refine hK.out _ _ HH8.out (fun hHeld => ?_)
          clear hK Kc
          (try simp only [Act.put]); (try simp only [List.setIfInBounds_toArray]); (try simp only [List.set_cons_succ]); (try simp only [List.set_cons_zero])
          refine wpAnyH_done (by kernel_rfl) ?_ _
          clear hHeld
          obtain ⟨Wf, hWf⟩ : ∃ Wf, w7.setCell ⟨c.m, 2, none⟩ (.slice uo (g4.S.length + 1) uc) = Wf := ⟨_, rfl⟩
          have hgo := HGO.out
          rw [hWf] at hgo ⊢
          exact key Y uo uc Wf ⟨v2', hgo⟩
      rintro Yn19 uon19 ucn19 W19 ⟨v2n19, hg⟩
      obtain ⟨g5, hgn⟩ : ∃ g', g' = ({ g4 with v2 := v2n19, S := g4.S ++ [⟨none, 0, 0, 0, none, 0, 0⟩] } : Gh) := ⟨_, rfl⟩
      rw [← hgn] at hg
      have HGg5 := hidM hgn
      have HG19 := hidM (HG18.out.trans hg (fun _ f => f.elim))
      replace HR11 := hidM (hg.box HR11.out.1 HR11.out.2)
      replace HR9 := hidM (hg.box HR9.out.1 HR9.out.2)
      clear hg hgn HG18 HOl c2 bX110 bX111 bX112
      obtain ⟨b0, b1, b2⟩ := boxCells3 HR9.out.1
      have d1 : W19.cell? ⟨c.m, 1, none⟩ = some (.int .i64 c.N) := HG19.out.inv.cell rfl
      go_wp2_with fail
      obtain ⟨U0, hU0⟩ : ∃ U0, W19.drew = U0 := ⟨_, rfl⟩
      have HKU0 : Hid (Keeps W19 U0 (fun _ => False)) := by rw [← hU0]; exact (Keeps.refl _ _).drew
      refine wp_region_held_drew (S := fun w' => w'.cell? ⟨X9, 0, none⟩ = some (.slice (some ⟨c.A, 0, none⟩) c.N NA) ∧ w'.cell? ⟨X9, 1, none⟩ = some (.int .i64 0) ∧ w'.cell? ⟨X9, 2, none⟩ = some (.pointer none) ∧ w'.cell? ⟨c.m, 1, none⟩ = some (.int .i64 c.N)) (by kernel_rfl) (by rw [hU0]; exact ⟨HKU0.out.cell' b0 id, HKU0.out.cell' b1 id, HKU0.out.cell' b2 id, HKU0.out.cell' d1 id⟩) (fun hHeld => ?_)
      rw [hU0] at hHeld ⊢
      clear hU0
      refine wpAnyH_take (i := 0) (oi := { dst := some 155, op := Go.Op.move (Go.Operand.tmp 4), type := 24, pos := "law.go:372", after := #[], guard := none }) (v := ?v0h1) rfl (by kernel_rfl) (by kernel_rfl) (by kernel_rfl) (fun _ _ _ h => h) (Or.inl ⟨by rfl, ?y0h1⟩) (by assumption) ?r0h1
      case y0h1 => (intro w hSw; obtain ⟨s0, s1, s2, s3⟩ := hSw; go_simp; (try with_reducible rfl))
      (try simp only [Act.put]); (try simp only [List.setIfInBounds_toArray]); (try simp only [List.set_cons_succ]); (try simp only [List.set_cons_zero])
      refine wpAnyH_take (i := 1) (oi := { dst := some 156, op := Go.Op.move (Go.Operand.tmp 7), type := 5, pos := "law.go:372", after := #[], guard := none }) (v := ?v1h2) rfl (by kernel_rfl) (by kernel_rfl) (by kernel_rfl) (fun _ _ _ h => h) (Or.inl ⟨by rfl, ?y1h2⟩) (by assumption) ?r1h2
      case y1h2 => (intro w hSw; obtain ⟨s0, s1, s2, s3⟩ := hSw; go_simp; (try with_reducible rfl))
      (try simp only [Act.put]); (try simp only [List.setIfInBounds_toArray]); (try simp only [List.set_cons_succ]); (try simp only [List.set_cons_zero])
      refine wpAnyH_take (i := 2) (oi := { dst := some 157, op := Go.Op.binOp Go.BinOp.eql 5 (Go.Operand.tmp 156) (Go.Operand.const (Go.Value.int Go.IntKind.u8 9)) 5, type := 4, pos := "law.go:372", after := #[{ on := 1, ground := Go.Ground.data }], guard := none }) (v := ?v2h3) rfl (by kernel_rfl) (by kernel_rfl) (by kernel_rfl) (fun _ _ _ h => h) (Or.inl ⟨by rfl, ?y2h3⟩) (by assumption) ?r2h3
      case y2h3 => (intro w hSw; obtain ⟨s0, s1, s2, s3⟩ := hSw; go_simp; (try with_reducible rfl))
      (try simp only [Act.put]); (try simp only [List.setIfInBounds_toArray]); (try simp only [List.set_cons_succ]); (try simp only [List.set_cons_zero])
      refine wpAnyH_take (i := 3) (oi := { dst := some 158, op := Go.Op.move (Go.Operand.tmp 157), type := 4, pos := "law.go:372", after := #[{ on := 2, ground := Go.Ground.data }], guard := none }) (v := ?v3h4) rfl (by kernel_rfl) (by kernel_rfl) (by kernel_rfl) (fun _ _ _ h => h) (Or.inl ⟨by rfl, ?y3h4⟩) (by assumption) ?r3h4
      case y3h4 => (intro w hSw; obtain ⟨s0, s1, s2, s3⟩ := hSw; go_simp; (try with_reducible rfl))
      (try simp only [Act.put]); (try simp only [List.setIfInBounds_toArray]); (try simp only [List.set_cons_succ]); (try simp only [List.set_cons_zero])
      refine wpAnyH_take (i := 4) (oi := { dst := some 159, op := Go.Op.move (Go.Operand.tmp 8), type := 41, pos := "law.go:372", after := #[{ on := 3, ground := Go.Ground.guard }], guard := some (3, true) }) (v := ?v4h5) rfl (by kernel_rfl) (by kernel_rfl) (by kernel_rfl) (fun _ _ _ h => h) (Or.inl ⟨by rfl, ?y4h5⟩) (by assumption) ?r4h5
      case y4h5 => (intro w hSw; obtain ⟨s0, s1, s2, s3⟩ := hSw; go_simp; (try with_reducible rfl))
      (try simp only [Act.put]); (try simp only [List.setIfInBounds_toArray]); (try simp only [List.set_cons_succ]); (try simp only [List.set_cons_zero])
      refine wpAnyH_take (i := 5) (oi := { dst := some 160, op := Go.Op.binOp Go.BinOp.eql 41 (Go.Operand.tmp 159) (Go.Operand.const (Go.Value.int Go.IntKind.i64 0)) 41, type := 4, pos := "law.go:372", after := #[{ on := 4, ground := Go.Ground.data }, { on := 3, ground := Go.Ground.guard }], guard := some (3, true) }) (v := ?v5h6) rfl (by kernel_rfl) (by kernel_rfl) (by kernel_rfl) (fun _ _ _ h => h) (Or.inl ⟨by rfl, ?y5h6⟩) (by assumption) ?r5h6
      case y5h6 => (intro w hSw; obtain ⟨s0, s1, s2, s3⟩ := hSw; go_simp; (try with_reducible rfl))
      (try simp only [Act.put]); (try simp only [List.setIfInBounds_toArray]); (try simp only [List.set_cons_succ]); (try simp only [List.set_cons_zero])
      refine wpAnyH_take (i := 6) (oi := { dst := some 161, op := Go.Op.pick (Go.Operand.tmp 158) (Go.Operand.tmp 160) (Go.Operand.const (Go.Value.bool false)), type := 4, pos := "law.go:372", after := #[{ on := 3, ground := Go.Ground.data }, { on := 5, ground := Go.Ground.data }], guard := none }) (v := ?v6h7) rfl (by kernel_rfl) (by kernel_rfl) (by kernel_rfl) (fun _ _ _ h => h) (Or.inl ⟨by rfl, ?y6h7⟩) (by assumption) ?r6h7
      case y6h7 => (intro w hSw; obtain ⟨s0, s1, s2, s3⟩ := hSw; go_simp; (try with_reducible rfl))
      (try simp only [Act.put]); (try simp only [List.setIfInBounds_toArray]); (try simp only [List.set_cons_succ]); (try simp only [List.set_cons_zero])
      refine wpAnyH_take (i := 7) (oi := { dst := some 162, op := Go.Op.move (Go.Operand.tmp 161), type := 4, pos := "law.go:372", after := #[{ on := 6, ground := Go.Ground.data }, { on := 3, ground := Go.Ground.chain }], guard := none }) (v := ?v7h8) rfl (by kernel_rfl) (by kernel_rfl) (by kernel_rfl) (fun _ _ _ h => h) (Or.inl ⟨by rfl, ?y7h8⟩) (by assumption) ?r7h8
      case y7h8 => (intro w hSw; obtain ⟨s0, s1, s2, s3⟩ := hSw; go_simp; (try with_reducible rfl))
      (try simp only [Act.put]); (try simp only [List.setIfInBounds_toArray]); (try simp only [List.set_cons_succ]); (try simp only [List.set_cons_zero])
      refine wpAnyH_take (i := 8) (oi := { dst := some 163, op := Go.Op.load 37 (Go.Operand.tmp 9), type := 37, pos := "law.go:372", after := #[{ on := 7, ground := Go.Ground.guard }], guard := some (7, true) }) (v := ?v8h9) rfl (by kernel_rfl) (by kernel_rfl) (by kernel_rfl) (fun _ _ _ h => h) (Or.inl ⟨by rfl, ?y8h9⟩) (by assumption) ?r8h9
      case y8h9 => (intro w hSw; obtain ⟨s0, s1, s2, s3⟩ := hSw; go_simp; (try with_reducible rfl))
      (try simp only [Act.put]); (try simp only [List.setIfInBounds_toArray]); (try simp only [List.set_cons_succ]); (try simp only [List.set_cons_zero])
      refine wpAnyH_take (i := 10) (oi := { dst := some 165, op := Go.Op.move (Go.Operand.tmp 4), type := 24, pos := "law.go:372", after := #[{ on := 7, ground := Go.Ground.guard }, { on := 16, ground := Go.Ground.gcOnly Go.Departure.lateStores }], guard := some (7, true) }) (v := ?v10h10) rfl (by kernel_rfl) (by kernel_rfl) (by kernel_rfl) (fun _ _ _ h => h) (Or.inl ⟨by rfl, ?y10h10⟩) (by assumption) ?r10h10
      case y10h10 => (intro w hSw; obtain ⟨s0, s1, s2, s3⟩ := hSw; go_simp; (try with_reducible rfl))
      (try simp only [Act.put]); (try simp only [List.setIfInBounds_toArray]); (try simp only [List.set_cons_succ]); (try simp only [List.set_cons_zero])
      refine wpAnyH_take (i := 11) (oi := { dst := some 166, op := Go.Op.nilCheck (Go.Operand.tmp 165), type := 0, pos := "law.go:372", after := #[{ on := 10, ground := Go.Ground.data }, { on := 7, ground := Go.Ground.guard }, { on := 16, ground := Go.Ground.gcOnly Go.Departure.lateStores }], guard := some (7, true) }) (v := ?v11h11) rfl (by kernel_rfl) (by kernel_rfl) (by kernel_rfl) (fun _ _ _ h => h) (Or.inl ⟨by rfl, ?y11h11⟩) (by assumption) ?r11h11
      case y11h11 => (intro w hSw; obtain ⟨s0, s1, s2, s3⟩ := hSw; go_simp; (try with_reducible rfl))
      (try simp only [Act.put]); (try simp only [List.setIfInBounds_toArray]); (try simp only [List.set_cons_succ]); (try simp only [List.set_cons_zero])
      refine wpAnyH_take (i := 12) (oi := { dst := some 167, op := Go.Op.fieldAddr 87 (Go.Operand.tmp 166) 1, type := 0, pos := "law.go:372", after := #[{ on := 11, ground := Go.Ground.data }, { on := 7, ground := Go.Ground.guard }, { on := 16, ground := Go.Ground.gcOnly Go.Departure.lateStores }], guard := some (7, true) }) (v := ?v12h12) rfl (by kernel_rfl) (by kernel_rfl) (by kernel_rfl) (fun _ _ _ h => h) (Or.inl ⟨by rfl, ?y12h12⟩) (by assumption) ?r12h12
      case y12h12 => (intro w hSw; obtain ⟨s0, s1, s2, s3⟩ := hSw; go_simp; (try with_reducible rfl))
      (try simp only [Act.put]); (try simp only [List.setIfInBounds_toArray]); (try simp only [List.set_cons_succ]); (try simp only [List.set_cons_zero])
      refine wpAnyH_take (i := 13) (oi := { dst := some 168, op := Go.Op.load 3 (Go.Operand.tmp 167), type := 3, pos := "law.go:372", after := #[{ on := 12, ground := Go.Ground.data }, { on := 7, ground := Go.Ground.guard }, { on := 16, ground := Go.Ground.gcOnly Go.Departure.lateStores }], guard := some (7, true) }) (v := ?v13h13) rfl (by kernel_rfl) (by kernel_rfl) (by kernel_rfl) (fun _ _ _ h => h) (Or.inl ⟨by rfl, ?y13h13⟩) (by assumption) ?r13h13
      case y13h13 => (intro w hSw; obtain ⟨s0, s1, s2, s3⟩ := hSw; go_simp; (try with_reducible rfl))
      (try simp only [Act.put]); (try simp only [List.setIfInBounds_toArray]); (try simp only [List.set_cons_succ]); (try simp only [List.set_cons_zero])
      refine wpAnyH_ready (rs := [9]) (by kernel_rfl) (by simp) ?_
      refine AllReadyH.cons (o := { dst := some 164, op := Go.Op.call { callee := Go.Callee.value (Go.Operand.func 16), args := #[Go.Operand.tmp 163], argTypes := #[37] }, type := 3, pos := "law.go:372", after := #[{ on := 8, ground := Go.Ground.data }, { on := 7, ground := Go.Ground.chain }, { on := 7, ground := Go.Ground.guard }], guard := some (7, true) }) rfl (fun Kc hK => ?_) AllReadyH.nil
      go_simp
      go_at_call 16
      refine Calls.mono (vlen_exact (some ⟨c.A, 0, none⟩) c.N NA 0 none _) ?_
      rintro e w9 ⟨rfl, hw9⟩
      have HKw9 : Hid (Keeps W19 w9 (fun _ => False)) := by rw [hw9]; exact HKU0.out.alloc _
      clear hw9
      go_wp2_with fail
      refine hK.out _ _ (⟨HKw9.out.cell' b0 id, HKw9.out.cell' b1 id, HKw9.out.cell' b2 id, HKw9.out.cell' d1 id⟩) (fun hHeld => ?_)
      clear hK Kc
      (try simp only [Act.put]); (try simp only [List.setIfInBounds_toArray]); (try simp only [List.set_cons_succ]); (try simp only [List.set_cons_zero])
      refine wpAnyH_take (i := 14) (oi := { dst := some 169, op := Go.Op.binOp Go.BinOp.eql 3 (Go.Operand.tmp 164) (Go.Operand.tmp 168) 3, type := 4, pos := "law.go:372", after := #[{ on := 9, ground := Go.Ground.data }, { on := 13, ground := Go.Ground.data }, { on := 7, ground := Go.Ground.guard }, { on := 16, ground := Go.Ground.gcOnly Go.Departure.lateStores }], guard := some (7, true) }) (v := ?v14h14) rfl (by kernel_rfl) (by kernel_rfl) (by kernel_rfl) (fun _ _ _ h => h) (Or.inl ⟨by rfl, ?y14h14⟩) (by assumption) ?r14h14
      case y14h14 => (intro w hSw; obtain ⟨s0, s1, s2, s3⟩ := hSw; go_simp; (try with_reducible rfl))
      (try simp only [Act.put]); (try simp only [List.setIfInBounds_toArray]); (try simp only [List.set_cons_succ]); (try simp only [List.set_cons_zero])
      refine wpAnyH_take (i := 15) (oi := { dst := some 170, op := Go.Op.pick (Go.Operand.tmp 162) (Go.Operand.tmp 169) (Go.Operand.const (Go.Value.bool false)), type := 4, pos := "law.go:372", after := #[{ on := 7, ground := Go.Ground.data }, { on := 14, ground := Go.Ground.data }, { on := 16, ground := Go.Ground.gcOnly Go.Departure.lateStores }], guard := none }) (v := ?v15h15) rfl (by kernel_rfl) (by kernel_rfl) (by kernel_rfl) (fun _ _ _ h => h) (Or.inl ⟨by rfl, ?y15h15⟩) (by assumption) ?r15h15
      case y15h15 => (intro w hSw; obtain ⟨s0, s1, s2, s3⟩ := hSw; go_simp; (try with_reducible rfl))
      (try simp only [Act.put]); (try simp only [List.setIfInBounds_toArray]); (try simp only [List.set_cons_succ]); (try simp only [List.set_cons_zero])
      refine wpAnyH_take (i := 16) (oi := { dst := some 2, op := Go.Op.assign (Go.Operand.tmp 155), type := 24, pos := "law.go:372", after := #[{ on := 0, ground := Go.Ground.data }, { on := 9, ground := Go.Ground.chain }, { on := 0, ground := Go.Ground.phase }, { on := 1, ground := Go.Ground.textOnly Go.Departure.lateStores }, { on := 2, ground := Go.Ground.textOnly Go.Departure.lateStores }, { on := 3, ground := Go.Ground.textOnly Go.Departure.lateStores }, { on := 4, ground := Go.Ground.textOnly Go.Departure.lateStores }, { on := 5, ground := Go.Ground.textOnly Go.Departure.lateStores }, { on := 6, ground := Go.Ground.textOnly Go.Departure.lateStores }, { on := 7, ground := Go.Ground.textOnly Go.Departure.lateStores }, { on := 8, ground := Go.Ground.textOnly Go.Departure.lateStores }, { on := 9, ground := Go.Ground.textOnly Go.Departure.lateStoresUnsure }, { on := 10, ground := Go.Ground.textOnly Go.Departure.lateStores }, { on := 11, ground := Go.Ground.textOnly Go.Departure.lateStores }, { on := 12, ground := Go.Ground.textOnly Go.Departure.lateStores }, { on := 13, ground := Go.Ground.textOnly Go.Departure.lateStores }, { on := 14, ground := Go.Ground.textOnly Go.Departure.lateStores }, { on := 15, ground := Go.Ground.textOnly Go.Departure.lateStores }], guard := none }) (v := ?v16h16) rfl (by kernel_rfl) (by kernel_rfl) (by kernel_rfl) (fun _ _ _ h => h) (Or.inl ⟨by rfl, ?y16h16⟩) (by assumption) ?r16h16
      case y16h16 => (intro w hSw; obtain ⟨s0, s1, s2, s3⟩ := hSw; go_simp; (try with_reducible rfl))
      (try simp only [Act.put]); (try simp only [List.setIfInBounds_toArray]); (try simp only [List.set_cons_succ]); (try simp only [List.set_cons_zero])
      refine wpAnyH_take (i := 17) (oi := { dst := some 3, op := Go.Op.assign (Go.Operand.tmp 170), type := 4, pos := "law.go:372", after := #[{ on := 15, ground := Go.Ground.data }, { on := 16, ground := Go.Ground.chain }, { on := 0, ground := Go.Ground.phase }, { on := 1, ground := Go.Ground.phase }, { on := 2, ground := Go.Ground.phase }, { on := 3, ground := Go.Ground.phase }, { on := 4, ground := Go.Ground.phase }, { on := 5, ground := Go.Ground.phase }, { on := 6, ground := Go.Ground.phase }, { on := 7, ground := Go.Ground.phase }, { on := 8, ground := Go.Ground.phase }, { on := 9, ground := Go.Ground.phase }, { on := 10, ground := Go.Ground.phase }, { on := 11, ground := Go.Ground.phase }, { on := 12, ground := Go.Ground.phase }, { on := 13, ground := Go.Ground.phase }, { on := 14, ground := Go.Ground.phase }, { on := 15, ground := Go.Ground.phase }, { on := 16, ground := Go.Ground.phase }], guard := none }) (v := ?v17h17) rfl (by kernel_rfl) (by kernel_rfl) (by kernel_rfl) (fun _ _ _ h => h) (Or.inl ⟨by rfl, ?y17h17⟩) (by assumption) ?r17h17
      case y17h17 => (intro w hSw; obtain ⟨s0, s1, s2, s3⟩ := hSw; go_simp; (try with_reducible rfl))
      (try simp only [Act.put]); (try simp only [List.setIfInBounds_toArray]); (try simp only [List.set_cons_succ]); (try simp only [List.set_cons_zero])
      refine wpAnyH_done (by kernel_rfl) ?_ _
      clear hHeld b0 b1 b2 d1
      go_wp2_with fail
      have hgo := HG19.out.trans (HG19.out.inv.rest0 HKw9.out) (fun _ f => f.elim)
      have hkp := Go.keeps HKw.out hgo HNw.out
      have hft : ∀ i b, ft c g5 i b → w.heap.size ≤ b := fun i b hb => by rcases hgo.new i b hb with h1 | h1 | h1; exact HNw.out i b h1; exact Nat.le_trans HKw.out.size h1; exact h1.elim
      refine bodyPost_ret (v := .tuple #[.pointer (some ⟨c.m, 0, none⟩), .bool true]) (by simp [results, Try.results8, go_sem]) rfl ⟨c, g5, rfl, hgo.inv, ?_, hkp, hft⟩
      have e5 := HGg5.out
      have e4 := HGg4.out
      have e3 := HGg3.out
      have e2 := HGG2.out
      have e1 := HGG1.out
      clear hgo hkp hft HG19 HGg5 HGg4 HGg3 HGG2 HGG1 HR9 HR11 HS2 HS3 HS4 hSl hSl3 hSl4
      subst e5
      subst e4
      subst e3
      subst e2
      subst e1
      exact Ok.begin hN HLn.out HRg.out HNA.out rfl rfl rfl rfl rfl rfl rfl rfl rfl rfl rfl rfl
end Go.Proofs.Ytomlndoffoeaiaa.Kit
