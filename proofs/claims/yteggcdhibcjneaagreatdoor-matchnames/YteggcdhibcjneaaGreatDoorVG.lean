import Derived.Test.YteggcdhibcjneaaGreatDoorVB
import Derived.Test.YteggcdhibcjneaaGreatDoorGA
import Derived.Lib.ValidU
set_option maxRecDepth 100000
set_option maxHeartbeats 4000000
namespace Go.Proofs.YteggcdhibcjneaaGreatDoor.Kit
open Go.RowKit Go.Shelf Go.Deep
set_option linter.unusedVariables false
/-! ### values as they lie in memory -/
instance (n : Int) : Decidable (is64 n) := by unfold is64; infer_instance
/-- four cells: a value -/
structure VCells (W : World) (b o : Nat) (v : VT) (ao : Option Addr) (ca : Nat) : Prop where
  c0 : W.cell? ⟨b, o, none⟩ = some (.bool v.nul)
  c1 : W.cell? ⟨b, o + 1, none⟩ = some (.int .i64 v.num)
  c2 : W.cell? ⟨b, o + 2, none⟩ = some (.string v.text)
  c3 : W.cell? ⟨b, o + 3, none⟩ = some (.slice ao v.list.length ca)
def VOk (v : VT) : Prop := is64 v.num ∧ v.text.size ≤ big
/-- a list of values lies in blocks of S; d: no deeper -/
def VRow (S : Nat → Prop) (W : World) : Nat → Option Addr → List VT → Prop
  | 0, _, l => l = []
  | d + 1, ao, l => l.length ≤ big ∧ (l ≠ [] → ∃ b o, ao = some ⟨b, o, none⟩ ∧ S b ∧ ∀ i (h : i < l.length), ∃ ao' ca', VCells W b (o + i * 4) l[i] ao' ca' ∧ l[i].list.length ≤ ca' ∧ VOk l[i] ∧ VRow S W d ao' l[i].list)
theorem VCells.kept {W W' : World} {b o : Nat} {v : VT} {ao : Option Addr} {ca : Nat} (h : VCells W b o v ao ca) (e : W'.heap[b]? = W.heap[b]?) : VCells W' b o v ao ca := by
  have k : ∀ j, W'.cell? ⟨b, j, none⟩ = W.cell? ⟨b, j, none⟩ := fun j => World.cell?_of_block (w := W) e
  exact ⟨(k _).trans h.c0, (k _).trans h.c1, (k _).trans h.c2, (k _).trans h.c3⟩
theorem VRow.kept {S : Nat → Prop} {W W' : World} (k : KpOf S W W') : ∀ {d : Nat} {ao : Option Addr} {l : List VT}, VRow S W d ao l → VRow S W' d ao l
  | 0, _, _, h => h
  | _ + 1, _, _, h => ⟨h.1, fun hn => by
    obtain ⟨b, o, e, hb, hi⟩ := h.2 hn
    refine ⟨b, o, e, hb, fun i hl => ?_⟩
    obtain ⟨ao', ca', hc, hle, hv, hr⟩ := hi i hl
    exact ⟨ao', ca', hc.kept (k b hb), hle, hv, VRow.kept k hr⟩⟩
theorem VRow.len {S : Nat → Prop} {W : World} {d : Nat} {ao : Option Addr} {l : List VT} (h : VRow S W d ao l) : l.length ≤ big := by
  cases d with
  | zero => have : l = [] := h; subst this; simp [big]
  | succ d => exact h.1
/-- no deeper -/
def vdeep : Nat → List VT → Prop
  | 0, l => l = []
  | d + 1, l => ∀ v ∈ l, vdeep d v.list
theorem VRow.deep {S : Nat → Prop} {W : World} : ∀ {d : Nat} {ao : Option Addr} {l : List VT}, VRow S W d ao l → vdeep d l
  | 0, _, _, h => h
  | d + 1, _, l, h => fun f hf => by
    obtain ⟨i, hi, rfl⟩ := List.mem_iff_getElem.1 hf
    obtain ⟨b, o, _, _, hc⟩ := h.2 (fun e => by subst e; simp at hi)
    obtain ⟨ao', ca', _, _, _, hr⟩ := hc i hi
    exact VRow.deep hr
/-- a row that is no deeper is one of more depth -/
theorem VRow.more {S : Nat → Prop} {W : World} : ∀ {d e : Nat} {ao : Option Addr} {l : List VT}, d ≤ e → VRow S W d ao l → VRow S W e ao l
  | 0, 0, _, _, _, h => h
  | 0, e + 1, _, l, _, h => by have : l = [] := h; subst this; exact ⟨by simp [big], fun h => absurd rfl h⟩
  | d + 1, 0, _, _, h, _ => by omega
  | d + 1, e + 1, _, _, hle, h => ⟨h.1, fun hn => by
    obtain ⟨b, o, e, hb, hi⟩ := h.2 hn
    refine ⟨b, o, e, hb, fun i hl => ?_⟩
    obtain ⟨ao', ca', hc, hle', hv, hr⟩ := hi i hl
    exact ⟨ao', ca', hc, hle', hv, VRow.more (by omega) hr⟩⟩

/-! ### which values fit: what is left of the weight -/
def numB (k n : Int) : Bool :=
  if k = 2 then n == 0 || n == 1 else if k = 3 then decide (-128 ≤ n) && decide (n ≤ 127) else if k = 4 then decide (-32768 ≤ n) && decide (n ≤ 32767) else if k = 5 then decide (-2147483648 ≤ n) && decide (n ≤ 2147483647)
  else if k = 7 then decide (0 ≤ n) && decide (n ≤ 255) else if k = 8 then decide (0 ≤ n) && decide (n ≤ 65535) else if k = 9 then decide (0 ≤ n) && decide (n ≤ 4294967295)
  else k == 6 || k == 10 || k == 11
def fitsL (r : VT → Int → Option Int) : List VT → Int → Option Int
  | [], l => some l
  | x :: xs, l => (r x l).bind (fitsL r xs)
def fitsP (r : FT → VT → Int → Option Int) : List FT → List VT → Int → Option Int
  | f :: fs, x :: xs, l => (r f x l).bind (fitsP r fs xs)
  | _, _, l => some l
def weigh (r : VT → Int → Option Int) (v : VT) (l : Int) : Option Int := if (16 + v.text.size : Int) ≤ l then r v (l - (16 + v.text.size)) else none
def fitsB (r : FT → VT → Int → Option Int) (f : FT) (v : VT) (l : Int) : Option Int :=
  if v.nul = true then (if f.nul = true ∧ v.num = 0 ∧ v.text.size = 0 ∧ v.list = [] then some l else none)
  else if f.kind = 12 then (if v.num = 0 ∧ v.list = [] ∧ Lib.validD v.text.data.toList = true then some l else none)
  else if f.kind = 13 then (if v.num = 0 ∧ v.list = [] then some l else none)
  else if f.kind = 14 then (if v.num = 0 ∧ v.list = [] ∧ (v.text.size : Int) = f.width then some l else none)
  else if f.kind = 15 then (if v.num = 0 ∧ v.text.size = 0 ∧ v.list.length ≤ 4096 then fitsL (weigh (r f.kids.head!)) v.list l else none)
  else if f.kind = 16 then (if v.num = 0 ∧ v.text.size = 0 ∧ (v.list.length : Int) = f.width ∧ v.list.length ≤ 4096 then fitsL (weigh (r f.kids.head!)) v.list l else none)
  else if f.kind = 17 then (if v.num = 0 ∧ v.text.size = 0 ∧ v.list.length = f.kids.length then fitsP (fun g => weigh (r g)) f.kids v.list l else none)
  else if f.kind = 18 then (if v.text.size = 0 ∧ 0 ≤ v.num ∧ v.num < (f.kids.length : Int) ∧ v.list.length = 1 then weigh (r (f.kids.getD v.num.toNat default)) v.list.head! l else none)
  else if f.kind = 19 ∨ f.kind = 20 then r f.kids.head! v l
  else (if v.text.size = 0 ∧ v.list = [] ∧ is64 v.num ∧ numB f.kind v.num = true then some l else none)
def fitsT : Nat → FT → VT → Int → Option Int
  | 0, _, _, _ => none
  | n + 1, f, v, l => fitsB (fitsT n) f v l

theorem size_nil {t : ByteArray} (h : t.size = 0) : t = ⟨#[]⟩ := by
  cases t with | mk d => exact congrArg ByteArray.mk (Array.eq_empty_of_size_eq_zero h)
/-- no weight is won -/
def Falls (r : VT → Int → Option Int) : Prop := ∀ v l l', 0 ≤ l → r v l = some l' → 0 ≤ l' ∧ l' ≤ l
theorem Falls.weigh {r : VT → Int → Option Int} (h : Falls r) : Falls (weigh r) := by
  intro v l l' hl e
  unfold Kit.weigh at e
  split at e
  · rename_i c
    have := h v _ l' (by omega) e
    omega
  · cases e
theorem Falls.list {r : VT → Int → Option Int} (h : Falls r) : ∀ (xs : List VT) (l l' : Int), 0 ≤ l → fitsL r xs l = some l' → 0 ≤ l' ∧ l' ≤ l
  | [], l, l', hl, e => by cases e; omega
  | x :: xs, l, l', hl, e => by
    rw [fitsL] at e
    cases e1 : r x l with
    | none => rw [e1] at e; cases e
    | some l1 =>
      rw [e1] at e
      have h1 := h x l l1 hl e1
      have := Falls.list h xs l1 l' h1.1 e
      omega
theorem falls_parts {r : FT → VT → Int → Option Int} (h : ∀ f, Falls (r f)) : ∀ (fs : List FT) (xs : List VT) (l l' : Int), 0 ≤ l → fitsP r fs xs l = some l' → 0 ≤ l' ∧ l' ≤ l
  | [], xs, l, l', hl, e => by simp [fitsP] at e; omega
  | f :: fs, [], l, l', hl, e => by simp [fitsP] at e; omega
  | f :: fs, x :: xs, l, l', hl, e => by
    rw [fitsP] at e
    cases e1 : r f x l with
    | none => rw [e1] at e; cases e
    | some l1 =>
      rw [e1] at e
      have h1 := h f x l l1 hl e1
      have := falls_parts h fs xs l1 l' h1.1 e
      omega
theorem falls_fits : ∀ (n : Nat) (f : FT), Falls (fitsT n f)
  | 0, f => fun v l l' _ e => by cases e
  | n + 1, f => fun v l l' hl e => by
    have ih := falls_fits n
    have leaf : ∀ {p : Prop} [Decidable p], (if p then some l else none) = some l' → 0 ≤ l' ∧ l' ≤ l := fun {p} _ h => by
      split at h
      · cases h; omega
      · cases h
    rw [fitsT, fitsB] at e
    split at e
    · exact leaf e
    split at e
    · exact leaf e
    split at e
    · exact leaf e
    split at e
    · exact leaf e
    split at e
    · split at e
      · exact (ih _).weigh.list _ _ _ hl e
      · cases e
    split at e
    · split at e
      · exact (ih _).weigh.list _ _ _ hl e
      · cases e
    split at e
    · split at e
      · exact falls_parts (fun g => (ih g).weigh) _ _ _ _ hl e
      · cases e
    split at e
    · split at e
      · exact (ih _).weigh _ _ _ hl e
      · cases e
    split at e
    · exact ih _ _ _ _ hl e
    · exact leaf e
theorem fitsL_all {r : VT → Int → Option Int} {P : VT → Prop} (h : ∀ v l l', r v l = some l' → P v) : ∀ (xs : List VT) (l l' : Int), fitsL r xs l = some l' → ∀ x ∈ xs, P x
  | [], _, _, _, x, hx => by cases hx
  | y :: ys, l, l', e, x, hx => by
    rw [fitsL] at e
    cases e1 : r y l with
    | none => rw [e1] at e; cases e
    | some l1 =>
      rw [e1] at e
      rcases List.mem_cons.1 hx with rfl | hx
      · exact h _ _ _ e1
      · exact fitsL_all h ys l1 l' e x hx
theorem fitsP_all {r : FT → VT → Int → Option Int} {P : FT → VT → Prop} (h : ∀ f v l l', r f v l = some l' → P f v) : ∀ (fs : List FT) (xs : List VT) (l l' : Int), xs.length = fs.length → fitsP r fs xs l = some l' → Parts (fs.map P) xs
  | [], xs, _, _, hl, _ => List.eq_nil_of_length_eq_zero (by simpa using hl)
  | f :: fs, [], _, _, hl, _ => by simp at hl
  | f :: fs, x :: xs, l, l', hl, e => by
    rw [fitsP] at e
    cases e1 : r f x l with
    | none => rw [e1] at e; cases e
    | some l1 =>
      rw [e1] at e
      exact ⟨x, xs, rfl, h _ _ _ _ e1, fitsP_all h fs xs l1 l' (by simpa using hl) e⟩
theorem weigh_all {r : VT → Int → Option Int} {P : VT → Prop} (h : ∀ v l l', r v l = some l' → P v) : ∀ v l l', weigh r v l = some l' → P v := fun v l l' e => by
  unfold weigh at e
  split at e
  · exact h _ _ _ e
  · cases e
/-- what fits has the shape -/
theorem fits_shape : ∀ (n : Nat) (f : FT) (v : VT) (l l' : Int), fitsT n f v l = some l' → shape n f v
  | 0, f, v, l, l', e => by cases e
  | n + 1, f, v, l, l', e => by
    have ih := fits_shape n
    have some_of : ∀ {p : Prop} [Decidable p] {o : Option Int}, (if p then o else none) = some l' → p ∧ o = some l' := fun {p} _ o h => by
      split at h
      · rename_i c; exact ⟨c, h⟩
      · cases h
    rw [fitsT, fitsB] at e
    split at e
    · rename_i hn
      obtain ⟨⟨_, h1, h2, h3⟩, _⟩ := some_of e
      exact ⟨fun _ => ⟨h1, size_nil h2, h3⟩, fun h => by rw [hn] at h; cases h⟩
    rename_i hn
    refine ⟨fun h => absurd h hn, fun hf => ?_⟩
    unfold shapeB
    by_cases k12 : f.kind = 12
    · rw [if_pos k12] at e
      obtain ⟨⟨h1, h2, _⟩, _⟩ := some_of e
      rw [if_pos (.inl k12)]
      exact ⟨h1, h2⟩
    rw [if_neg k12] at e
    by_cases k13 : f.kind = 13
    · rw [if_pos k13] at e
      obtain ⟨⟨h1, h2⟩, _⟩ := some_of e
      rw [if_pos (.inr (.inl k13))]
      exact ⟨h1, h2⟩
    rw [if_neg k13] at e
    by_cases k14 : f.kind = 14
    · rw [if_pos k14] at e
      obtain ⟨⟨h1, h2, _⟩, _⟩ := some_of e
      rw [if_pos (.inr (.inr k14))]
      exact ⟨h1, h2⟩
    rw [if_neg k14] at e
    rw [if_neg (by omega)]
    by_cases k15 : f.kind = 15
    · rw [if_pos k15] at e
      obtain ⟨⟨h1, h2, _⟩, h3⟩ := some_of e
      rw [if_pos (.inl k15)]
      exact ⟨h1, size_nil h2, fitsL_all (weigh_all (ih _)) _ _ _ h3⟩
    rw [if_neg k15] at e
    by_cases k16 : f.kind = 16
    · rw [if_pos k16] at e
      obtain ⟨⟨h1, h2, _⟩, h3⟩ := some_of e
      rw [if_pos (.inr k16)]
      exact ⟨h1, size_nil h2, fitsL_all (weigh_all (ih _)) _ _ _ h3⟩
    rw [if_neg k16] at e
    rw [if_neg (by omega)]
    by_cases k17 : f.kind = 17
    · rw [if_pos k17] at e
      obtain ⟨⟨h1, h2, h4⟩, h3⟩ := some_of e
      rw [if_pos k17]
      exact ⟨h1, size_nil h2, fitsP_all (fun f => weigh_all (ih f)) _ _ _ _ h4 h3⟩
    rw [if_neg k17] at e
    rw [if_neg k17]
    by_cases k18 : f.kind = 18
    · rw [if_pos k18] at e
      obtain ⟨⟨h1, h2, h4, h5⟩, h3⟩ := some_of e
      rw [if_pos k18]
      obtain ⟨x, hx⟩ := List.length_eq_one_iff.1 h5
      rw [hx] at h3
      exact ⟨size_nil h1, x, hx, weigh_all (ih _) _ _ _ h3⟩
    rw [if_neg k18] at e
    rw [if_neg k18]
    by_cases k19 : f.kind = 19 ∨ f.kind = 20
    · rw [if_pos k19] at e
      rw [if_pos k19]
      exact ⟨ih _ _ _ _ e, hf⟩
    rw [if_neg k19] at e
    rw [if_neg k19]
    obtain ⟨⟨h1, h2, h3, _⟩, _⟩ := some_of e
    exact ⟨size_nil h1, h2, h3⟩

/-! ### a field that may be: each within has its children -/
def okF : Nat → FT → Prop
  | 0, _ => False
  | n + 1, f => tableB f = true ∧ ∀ k ∈ f.kids, okF n k
def pre : Nat → List FT → List FT
  | 0, _ => []
  | d + 1, l => l.flatMap fun f => f :: pre d f.kids
def deep : Nat → List FT → Prop
  | 0, l => l = []
  | d + 1, l => ∀ f ∈ l, deep d f.kids
theorem RowAt.deep {S : Nat → Prop} {W : World} : ∀ {d : Nat} {ao : Option Addr} {l : List FT}, RowAt S W d ao l → Kit.deep d l
  | 0, _, _, h => h
  | d + 1, _, l, h => fun f hf => by
    obtain ⟨i, hi, rfl⟩ := List.mem_iff_getElem.1 hf
    obtain ⟨b, o, _, _, hc⟩ := h.2 (fun e => by subst e; simp at hi)
    obtain ⟨ao', ca', _, _, hr⟩ := hc i hi
    exact RowAt.deep hr
theorem nodes_pre : ∀ (d : Nat) (l : List FT) (path : List Nat) (inD : Bool), (nodes d l path inD).map LS.fld = pre d l
  | 0, _, _, _ => rfl
  | d + 1, l, path, inD => by
    have key : ∀ n, n ≤ l.length → (upto d l path inD n).map LS.fld = (l.take n).flatMap fun f => f :: pre d f.kids := by
      intro n
      induction n with
      | zero => intro _; simp [upto_zero]
      | succ n ih =>
        intro hn
        have hx : LS.fld ⟨l, path ++ [n], inD⟩ = l[n] := by
          have hi : LS.idx ⟨l, path ++ [n], inD⟩ = n := by simp [LS.idx]
          unfold LS.fld
          rw [hi]
          simp [List.getElem?_eq_getElem (show n < l.length by omega)]
        have hb : l[n]! = l[n] := getElem!_pos l n (by omega)
        rw [upto_succ, List.map_append, ih (by omega), List.map_cons, nodes_pre d, hx, hb, List.take_succ_eq_append_getElem (by omega), List.flatMap_append]
        simp
    have := key l.length (Nat.le_refl _)
    rw [nodes_succ, this, List.take_length]
    rfl
theorem okF_of_pre : ∀ (d : Nat) (l : List FT), deep d l → (∀ x ∈ pre d l, tableB x = true) → ∀ k ∈ l, okF d k
  | 0, l, hd, _, k, hk => by have : l = [] := hd; subst this; cases hk
  | d + 1, l, hd, h, k, hk => by
    have hin : ∀ x ∈ k :: pre d k.kids, x ∈ pre (d + 1) l := fun x hx => List.mem_flatMap.2 ⟨k, hk, hx⟩
    exact ⟨h _ (hin _ (by simp)), okF_of_pre d k.kids (hd k hk) fun x hx => h _ (hin _ (by simp [hx]))⟩
theorem wrt_tab {m : Nat} {ahead : Int} {nameR : Bool} {idx i : Int} {tabR nulR inD : Bool} {f2 : Int} {kid tk : Bool} (h : wr m ahead nameR idx i tabR nulR inD f2 kid tk = 0) : tabR = true := by
  unfold wr at h
  cases tabR with
  | true => rfl
  | false => simp at h; split at h <;> (try split at h) <;> (try split at h) <;> (try split at h) <;> omega
theorem AllR.tab {N : List LS} (h : AllR N) : ∀ x ∈ N, tableB x.fld = true := fun x hx => by
  obtain ⟨i, hi, rfl⟩ := List.mem_iff_getElem.1 hx
  exact wrt_tab (h i hi)
theorem AllR.okF {d : Nat} {f : FT} (h : AllR (nodes (d + 1) [f] [] false)) (hd : deep d f.kids) : Kit.okF (d + 1) f := by
  refine okF_of_pre (d + 1) [f] (fun g hg => by rw [List.mem_singleton.1 hg]; exact hd) (fun x hx => ?_) f (by simp)
  rw [← nodes_pre (d + 1) [f] [] false] at hx
  obtain ⟨y, hy, rfl⟩ := List.mem_map.1 hx
  exact h.tab y hy
theorem tab_kid {f : FT} (h : tableB f = true) (k : f.kind = 15 ∨ f.kind = 16 ∨ f.kind = 19 ∨ f.kind = 20) : f.kids ≠ [] := by
  unfold tableB at h
  intro e
  rw [e] at h
  rcases k with k | k | k | k <;> rw [k] at h <;> simp [leastK] at h
theorem tab_kind {f : FT} (h : tableB f = true) : 1 ≤ f.kind ∧ f.kind ≤ 20 := by
  unfold tableB kindB at h
  simp at h
  omega
end Go.Proofs.YteggcdhibcjneaaGreatDoor.Kit
namespace Go.Proofs.YteggcdhibcjneaaGreatDoor.Kit
open Go.RowKit Go.Shelf Go.Deep
set_option linter.unusedVariables false
attribute [local go_sem] run_store_func
/-! ### numbers of a kind -/
theorem wrapS (k : IntKind) (m : Int) (hm : 0 < m) (hm2 : m ≤ 2147483648) (hw : ∀ n : Int, k.wrap n = if 2 * m > n % (2 * m) ∧ n % (2 * m) ≥ m then n % (2 * m) - 2 * m else n % (2 * m)) (n : Int) : (n == wrap64 (k.wrap n)) = (decide (-m ≤ n) && decide (n ≤ m - 1)) := by
  have h0 := Int.emod_nonneg n (b := 2 * m) (by omega)
  have h1 := Int.emod_lt_of_pos n (b := 2 * m) (by omega)
  have h2 := Int.emod_add_mul_ediv n (2 * m)
  have hb : wrap64 (k.wrap n) = k.wrap n := by
    unfold wrap64
    rw [hw]
    split <;> omega
  rw [hb, hw]
  rw [Bool.eq_iff_iff]
  simp only [beq_iff_eq, Bool.and_eq_true, decide_eq_true_eq]
  constructor
  · intro e
    split at e <;> omega
  · rintro ⟨a, b⟩
    by_cases hn : 0 ≤ n
    · have e : n % (2 * m) = n := Int.emod_eq_of_lt hn (by omega)
      rw [e, if_neg (by omega)]
    · have e : n % (2 * m) = n + 2 * m := by
        rw [← Int.add_emod_right]
        exact Int.emod_eq_of_lt (by omega) (by omega)
      rw [e, if_pos (by omega)]
      omega
theorem wrapU (k : IntKind) (m : Int) (hm : 0 < m) (hm2 : m ≤ 4294967296) (hw : ∀ n : Int, k.wrap n = n % m) (n : Int) : (n == wrap64 (k.wrap n)) = (decide (0 ≤ n) && decide (n ≤ m - 1)) := by
  have h0 := Int.emod_nonneg n (b := m) (by omega)
  have h1 := Int.emod_lt_of_pos n (b := m) (by omega)
  have hb : wrap64 (k.wrap n) = k.wrap n := by
    unfold wrap64
    rw [hw]
    omega
  rw [hb, hw, Bool.eq_iff_iff]
  simp only [beq_iff_eq, Bool.and_eq_true, decide_eq_true_eq]
  constructor
  · intro e; omega
  · rintro ⟨a, b⟩
    exact (Int.emod_eq_of_lt a (by omega)).symm
theorem wrapI8 (n : Int) : (n == wrap64 (IntKind.i8.wrap n)) = (decide (-128 ≤ n) && decide (n ≤ 127)) := wrapS .i8 128 (by decide) (by decide) (fun n => by
  have h1 := Int.emod_lt_of_pos n (b := 256) (by omega)
  simp [IntKind.wrap, IntKind.bits, IntKind.signed, h1]) n
theorem wrapI16 (n : Int) : (n == wrap64 (IntKind.i16.wrap n)) = (decide (-32768 ≤ n) && decide (n ≤ 32767)) := wrapS .i16 32768 (by decide) (by decide) (fun n => by
  have h1 := Int.emod_lt_of_pos n (b := 65536) (by omega)
  simp [IntKind.wrap, IntKind.bits, IntKind.signed, h1]) n
theorem wrapI32 (n : Int) : (n == wrap64 (IntKind.i32.wrap n)) = (decide (-2147483648 ≤ n) && decide (n ≤ 2147483647)) := wrapS .i32 2147483648 (by decide) (by decide) (fun n => by
  have h1 := Int.emod_lt_of_pos n (b := 4294967296) (by omega)
  simp [IntKind.wrap, IntKind.bits, IntKind.signed, h1]) n
theorem wrapU8 (n : Int) : (n == wrap64 (IntKind.u8.wrap n)) = (decide (0 ≤ n) && decide (n ≤ 255)) := wrapU .u8 256 (by decide) (by decide) (fun n => by simp [IntKind.wrap, IntKind.bits, IntKind.signed]) n
theorem wrapU16 (n : Int) : (n == wrap64 (IntKind.u16.wrap n)) = (decide (0 ≤ n) && decide (n ≤ 65535)) := wrapU .u16 65536 (by decide) (by decide) (fun n => by simp [IntKind.wrap, IntKind.bits, IntKind.signed]) n
theorem wrapU32 (n : Int) : (n == wrap64 (IntKind.u32.wrap n)) = (decide (0 ≤ n) && decide (n ≤ 4294967295)) := wrapU .u32 4294967296 (by decide) (by decide) (fun n => by simp [IntKind.wrap, IntKind.bits, IntKind.signed]) n

theorem modU (m : Int) (hm : 0 < m) (n : Int) : (n == n % m) = (decide (0 ≤ n) && decide (n ≤ m - 1)) := by
  have h0 := Int.emod_nonneg n (b := m) (by omega)
  have h1 := Int.emod_lt_of_pos n (b := m) (by omega)
  rw [Bool.eq_iff_iff]
  simp only [beq_iff_eq, Bool.and_eq_true, decide_eq_true_eq]
  constructor
  · intro e; omega
  · rintro ⟨a, b⟩
    exact (Int.emod_eq_of_lt a (by omega)).symm
theorem modI32 (n : Int) : (n == wrap64 (wrap32 n)) = (decide (-2147483648 ≤ n) && decide (n ≤ 2147483647)) := by
  unfold wrap64 wrap32
  rw [Bool.eq_iff_iff]
  simp only [beq_iff_eq, Bool.and_eq_true, decide_eq_true_eq]
  constructor
  · intro e; omega
  · rintro ⟨a, b⟩; omega
theorem fitsNumber_any (k n : Int) (hk : 1 ≤ k ∧ k ≤ 20) (w : World) : Calls Tryz.prog 189 #[.int .i64 k, .int .i64 n] w fun e w' => e = .returned (.bool (numB k n)) ∧ w = w' := by
  have hk' : k = 1 ∨ k = 2 ∨ k = 3 ∨ k = 4 ∨ k = 5 ∨ k = 6 ∨ k = 7 ∨ k = 8 ∨ k = 9 ∨ k = 10 ∨ k = 11 ∨ k = 12 ∨ k = 13 ∨ k = 14 ∨ k = 15 ∨ k = 16 ∨ k = 17 ∨ k = 18 ∨ k = 19 ∨ k = 20 := by omega
  clear hk
  rcases hk' with rfl | rfl | rfl | rfl | rfl | rfl | rfl | rfl | rfl | rfl | rfl | rfl | rfl | rfl | rfl | rfl | rfl | rfl | rfl | rfl
  case inr.inl =>
    by_cases h0 : n = 0
    · subst h0
      go_enter Tryz.func189, Tryz.ntmps189
      go_wp2
      go_ret
      exact ⟨rfl, rfl⟩
    · have hb : (n == 0) = false := by simp [h0]
      have HB : Hid (numB 2 n = (n == 1)) := by show _ = _; simp [numB, hb]
      go_enter Tryz.func189, Tryz.ntmps189
      go_wp2
      go_ret
      exact ⟨by rw [HB.out]; rfl, rfl⟩
  all_goals
    go_enter Tryz.func189, Tryz.ntmps189
    go_wp2
    go_ret
    first
      | exact ⟨rfl, rfl⟩
      | exact ⟨congrArg (fun b => Ending.returned (.bool b)) (wrapI8 n), rfl⟩
      | exact ⟨congrArg (fun b => Ending.returned (.bool b)) (wrapI16 n), rfl⟩
      | exact ⟨congrArg (fun b => Ending.returned (.bool b)) (modI32 n), rfl⟩
      | exact ⟨congrArg (fun b => Ending.returned (.bool b)) (modU 256 (by decide) n), rfl⟩
      | exact ⟨congrArg (fun b => Ending.returned (.bool b)) (modU 65536 (by decide) n), rfl⟩
      | exact ⟨congrArg (fun b => Ending.returned (.bool b)) (modU 4294967296 (by decide) n), rfl⟩
      | exact ⟨congrArg (fun b => Ending.returned (.bool b)) (wrapI32 n), rfl⟩
      | exact ⟨congrArg (fun b => Ending.returned (.bool b)) (wrapU8 n), rfl⟩
      | exact ⟨congrArg (fun b => Ending.returned (.bool b)) (wrapU16 n), rfl⟩
      | exact ⟨congrArg (fun b => Ending.returned (.bool b)) (wrapU32 n), rfl⟩
/-! ### the scale, and a value that is weighed -/
structure Sc (w W : World) (sb : Nat) (l : Int) : Prop where
  kp : Keeps w W (fun k => k = sb)
  bx : W.heap[sb]? = some (.cells #[.int .i64 l] 311)
def valV (v : VT) (ao : Option Addr) (ca : Nat) : Value := .agg #[.bool v.nul, .int .i64 v.num, .string v.text, .slice ao v.list.length ca]
def FitQ (w : World) (sb : Nat) (x : Option Int) (e : Ending) (w' : World) : Prop := ∃ l', e = .returned (.bool x.isSome) ∧ Sc w w' sb l' ∧ ∀ l1, x = some l1 → l' = l1
theorem FitQ.no {w w' : World} {sb : Nat} {x : Option Int} {l : Int} {e : Ending} (hx : x = none) (he : e = .returned (.bool false)) (h : Sc w w' sb l) : FitQ w sb x e w' := ⟨l, by rw [he, hx]; rfl, h, fun _ h => by rw [hx] at h; cases h⟩
theorem FitQ.yes {w w' : World} {sb : Nat} {x : Option Int} {l : Int} {e : Ending} (hx : x = some l) (he : e = .returned (.bool true)) (h : Sc w w' sb l) : FitQ w sb x e w' := ⟨l, by rw [he, hx]; rfl, h, fun _ h => by rw [hx] at h; exact Option.some.inj h⟩
theorem FitQ.of {w w' : World} {sb : Nat} {x y : Option Int} {l : Int} {e : Ending} (hx : x = y) (he : e = .returned (.bool y.isSome)) (h : Sc w w' sb l) (hl : ∀ l1, y = some l1 → l = l1) : FitQ w sb x e w' := by subst hx; exact ⟨l, he, h, hl⟩
/-- a call with the scale answers whether it fits, and leaves what is left -/
def FitC (w : World) (sb F : Nat) (a b : Value) (r : Int → Option Int) : Prop :=
  ∀ W l, Sc w W sb l → 0 ≤ l → l ≤ 4194304 → Calls Tryz.prog F #[.pointer (some ⟨sb, 0, none⟩), a, b] W fun e w' => FitQ W sb (r l) e w'
theorem Sc.alloc {w W : World} {sb : Nat} {l : Int} (h : Sc w W sb l) (o : Obj) : Sc w (W.alloc o) sb l :=
  ⟨h.kp.alloc o, (Below.heap_alloc W o sb (lt_of_heap h.bx)).trans h.bx⟩
theorem Sc.set {w W : World} {sb : Nat} {l : Int} (h : Sc w W sb l) (l' : Int) : Sc w (W.setCell ⟨sb, 0, none⟩ (.int .i64 l')) sb l' := by
  refine ⟨h.kp.setCell (fun _ => rfl) _, ?_⟩
  have hb := lt_of_heap h.bx
  have hx := h.bx
  simp only [World.setCell]
  rw [Array.getElem?_modify]
  simp [hx]
theorem Sc.drew {w W : World} {sb : Nat} {l : Int} (h : Sc w W sb l) : Sc w W.drew sb l := ⟨h.kp.drew, h.bx⟩
theorem Sc.cell {w W : World} {sb : Nat} {l : Int} (h : Sc w W sb l) : W.cell? ⟨sb, 0, none⟩ = some (.int .i64 l) := by
  have hx := h.bx
  simp [World.cell?, hx]
theorem Sc.frz {w W : World} {sb : Nat} {l : Int} (h : Sc w W sb l) : W.frozen? ⟨sb, 0, none⟩ = false := by
  have hx := h.bx
  simp [World.frozen?, hx]
theorem Sc.lt {w W : World} {sb : Nat} {l : Int} (h : Sc w W sb l) : sb < W.heap.size := lt_of_heap h.bx
/-- a field's box, a value's box -/
def B7 (W : World) (B : Nat) (f0 : ByteArray) (f1 : Bool) (f2 f3 f4 f5 : Int) (ao : Option Addr) (n ca : Nat) : Prop := W.heap[B]? = some (.cells #[.string f0, .bool f1, .int .i64 f2, .int .i64 f3, .int .i64 f4, .int .i64 f5, .slice ao n ca] 47)
def B4 (W : World) (B : Nat) (v0 : Bool) (v1 : Int) (v2 : ByteArray) (vo : Option Addr) (m vc : Nat) : Prop := W.heap[B]? = some (.cells #[.bool v0, .int .i64 v1, .string v2, .slice vo m vc] 86)
theorem B7.cells {W : World} {B : Nat} {f0 : ByteArray} {f1 : Bool} {f2 f3 f4 f5 : Int} {ao : Option Addr} {n ca : Nat} (h : B7 W B f0 f1 f2 f3 f4 f5 ao n ca) :
    W.cell? ⟨B, 0, none⟩ = some (.string f0) ∧ W.cell? ⟨B, 1, none⟩ = some (.bool f1) ∧ W.cell? ⟨B, 2, none⟩ = some (.int .i64 f2) ∧ W.cell? ⟨B, 3, none⟩ = some (.int .i64 f3) ∧ W.cell? ⟨B, 4, none⟩ = some (.int .i64 f4) ∧ W.cell? ⟨B, 5, none⟩ = some (.int .i64 f5) ∧ W.cell? ⟨B, 6, none⟩ = some (.slice ao n ca) := by
  unfold B7 at h
  simp [World.cell?, h]
theorem B4.cells {W : World} {B : Nat} {v0 : Bool} {v1 : Int} {v2 : ByteArray} {vo : Option Addr} {m vc : Nat} (h : B4 W B v0 v1 v2 vo m vc) :
    W.cell? ⟨B, 0, none⟩ = some (.bool v0) ∧ W.cell? ⟨B, 1, none⟩ = some (.int .i64 v1) ∧ W.cell? ⟨B, 2, none⟩ = some (.string v2) ∧ W.cell? ⟨B, 3, none⟩ = some (.slice vo m vc) := by
  unfold B4 at h
  simp [World.cell?, h]

theorem Sc.gr {w W W' : World} {sb : Nat} {l : Int} (h : Sc w W sb l) (g : Gr W W') : Sc w W' sb l := ⟨h.kp.trans g (fun _ _ h => h.elim), (g.block sb h.lt id).trans h.bx⟩
theorem Sc.base {w V W : World} {sb : Nat} {l : Int} (h : Sc V W sb l) (k : Keeps w V (fun k => k = sb)) : Sc w W sb l := ⟨k.trans h.kp (fun _ _ h => h), h.bx⟩
theorem Sc.self {w W : World} {sb : Nat} {l : Int} (h : Sc w W sb l) : Sc W W sb l := ⟨Keeps.refl _ _, h.bx⟩
theorem Sc.other {V W : World} {sb : Nat} {l : Int} (h : Sc V W sb l) {b o : Nat} {v : Value} (hc : V.cell? ⟨b, o, none⟩ = some v) (hb : b ≠ sb) : W.cell? ⟨b, o, none⟩ = some v := h.kp.cell' hc hb
def B5 (W : World) (B : Nat) (f2 f3 f4 f5 : Int) (ao : Option Addr) (n ca : Nat) : Prop := W.heap[B]? = some (.cells #[.int .i64 f2, .int .i64 f3, .int .i64 f4, .int .i64 f5, .slice ao n ca] 45)
theorem B5.cells {W : World} {B : Nat} {f2 f3 f4 f5 : Int} {ao : Option Addr} {n ca : Nat} (h : B5 W B f2 f3 f4 f5 ao n ca) :
    W.cell? ⟨B, 0, none⟩ = some (.int .i64 f2) ∧ W.cell? ⟨B, 1, none⟩ = some (.int .i64 f3) ∧ W.cell? ⟨B, 2, none⟩ = some (.int .i64 f4) ∧ W.cell? ⟨B, 3, none⟩ = some (.int .i64 f5) ∧ W.cell? ⟨B, 4, none⟩ = some (.slice ao n ca) := by
  unfold B5 at h
  simp [World.cell?, h]
theorem alloc3 (W : World) (a b c : Obj) : (((W.alloc a).alloc b).alloc c).drew.heap[W.heap.size]? = some a ∧ (((W.alloc a).alloc b).alloc c).drew.heap[W.heap.size + 1]? = some b ∧ (((W.alloc a).alloc b).alloc c).drew.heap[W.heap.size + 1 + 1]? = some c ∧ Gr W (((W.alloc a).alloc b).alloc c).drew := by
  have s1 : (W.alloc a).heap.size = W.heap.size + 1 := by simp
  have s2 : ((W.alloc a).alloc b).heap.size = W.heap.size + 1 + 1 := by simp
  refine ⟨?_, ?_, ?_, ((((Keeps.refl W _).alloc a).alloc b).alloc c).drew⟩
  · exact (Below.heap_alloc ((W.alloc a).alloc b) c W.heap.size (by omega)).trans ((Below.heap_alloc (W.alloc a) b W.heap.size (by omega)).trans (heap_alloc_new W a))
  · refine (Below.heap_alloc ((W.alloc a).alloc b) c (W.heap.size + 1) (by omega)).trans ?_
    have := heap_alloc_new (W.alloc a) b
    rw [s1] at this
    exact this
  · have := heap_alloc_new ((W.alloc a).alloc b) c
    rw [s2] at this
    exact this
theorem fits_walk (f0 : ByteArray) (f1 : Bool) (f2 f3 f4 f5 : Int) (ao : Option Addr) (n ca : Nat) (v0 : Bool) (v1 : Int) (v2 : ByteArray) (vo : Option Addr) (m vc : Nat) (w : World) (sb : Nat) (r : Int → Option Int) (hv2 : v2.size ≤ big)
    (h70 : FitC w sb 174 (.agg #[.string f0, .bool f1, .int .i64 f2, .int .i64 f3, .int .i64 f4, .int .i64 f5, .slice ao n ca]) (.agg #[.bool v0, .int .i64 v1, .string v2, .slice vo m vc]) r) :
    FitC w sb 162 (.agg #[.string f0, .bool f1, .int .i64 f2, .int .i64 f3, .int .i64 f4, .int .i64 f5, .slice ao n ca]) (.agg #[.bool v0, .int .i64 v1, .string v2, .slice vo m vc]) (fun l => if (16 + v2.size : Int) ≤ l then r (l - (16 + v2.size)) else none) := by
  intro W l hs h0 h1
  have h70 := hidM h70
  have hz : v2.size ≤ 1000000000000 := hv2
  have hw1 : wrap64 (16 + (v2.size : Int)) = 16 + v2.size := by unfold wrap64; omega
  have hw2 : wrap64 (l - (16 + (v2.size : Int))) = l - (16 + v2.size) := by unfold wrap64; omega
  have c0 : ∀ o o', ((W.alloc o).alloc o').cell? ⟨sb, 0, none⟩ = some (.int .i64 l) := fun o o' => ((hs.alloc o).alloc o').cell
  have z0 : ∀ o o', ((W.alloc o).alloc o').frozen? ⟨sb, 0, none⟩ = false := fun o o' => ((hs.alloc o).alloc o').frz
  obtain ⟨V2, hV2⟩ : ∃ V2, ((W.alloc (.cells #[.string f0, .bool f1, .int .i64 f2, .int .i64 f3, .int .i64 f4, .int .i64 f5, .slice ao n ca] 47)).alloc (.cells #[.bool v0, .int .i64 v1, .string v2, .slice vo m vc] 86)).setCell ⟨sb, 0, none⟩ (.int .i64 (l - (16 + v2.size))) = V2 := ⟨_, rfl⟩
  have HS : Hid (Sc W V2 sb (l - (16 + v2.size))) := by rw [← hV2]; exact ((hs.self.alloc _).alloc _).set _
  have HK := hidM hs.kp
  have hne := hs.lt
  have b7 : B7 V2 W.heap.size f0 f1 f2 f3 f4 f5 ao n ca := by
    unfold B7
    rw [← hV2, heap_setCell_other _ ⟨sb, 0, none⟩ _ _ (by show W.heap.size ≠ sb; omega)]
    exact (Below.heap_alloc (W.alloc _) _ W.heap.size (by simp)).trans (heap_alloc_new W _)
  have b4 : B4 V2 (W.heap.size + 1) v0 v1 v2 vo m vc := by
    unfold B4
    rw [← hV2, heap_setCell_other _ ⟨sb, 0, none⟩ _ _ (by show W.heap.size + 1 ≠ sb; omega)]
    have e := heap_alloc_new (W.alloc (.cells #[.string f0, .bool f1, .int .i64 f2, .int .i64 f3, .int .i64 f4, .int .i64 f5, .slice ao n ca] 47)) (.cells #[.bool v0, .int .i64 v1, .string v2, .slice vo m vc] 86)
    rw [show (W.alloc (.cells #[.string f0, .bool f1, .int .i64 f2, .int .i64 f3, .int .i64 f4, .int .i64 f5, .slice ao n ca] 47)).heap.size = W.heap.size + 1 by simp] at e
    exact e
  obtain ⟨p0, p1, p2, p3, p4, p5, p6⟩ := b7.cells
  obtain ⟨q0, q1, q2, q3⟩ := b4.cells
  have s0 := HS.out.cell
  clear b7 b4 hs hne hv2 hz
  dsimp only
  obtain ⟨x, hx⟩ : ∃ x, x = (if (16 + v2.size : Int) ≤ l then r (l - (16 + v2.size)) else none) := ⟨_, rfl⟩
  rw [← hx]
  by_cases hle : (16 + v2.size : Int) ≤ l
  · have hge : 0 ≤ l - (16 + (v2.size : Int)) := by omega
    have HB : Hid (l - (16 + (v2.size : Int)) ≤ 4194304) := by show _ ≤ _; omega
    have HX : Hid (x = r (l - (16 + v2.size))) := by rw [if_pos hle] at hx; exact hx
    clear h1 hle hx
    go_enter Tryz.func162, Tryz.ntmps162
    go_wp2
    go_region
    all_goals
      go_wp2_with (go_at_call 174; refine Hid.out ?_)
      unfold Hid
      refine Calls.mono (h70.out _ _ (HS.out.drew.base HK.out) hge HB.out) ?_
      rintro e w' ⟨l', rfl, hs', hr⟩
      have HE := hidM (And.intro hs' hr)
      clear hs' hr
      go_wp2_with fail
      go_ret
      exact .of HX.out rfl (HE.out.1.base HS.out.drew.kp) HE.out.2
  · have HX : Hid (x = none) := by rw [if_neg hle] at hx; exact hx
    have hge : ¬ 0 ≤ l - (16 + (v2.size : Int)) := by omega
    clear h1 hle hx
    go_enter Tryz.func162, Tryz.ntmps162
    go_wp2
    go_region
    all_goals
      go_wp2
      go_ret
      exact .no HX.out rfl HS.out.drew
end Go.Proofs.YteggcdhibcjneaaGreatDoor.Kit
