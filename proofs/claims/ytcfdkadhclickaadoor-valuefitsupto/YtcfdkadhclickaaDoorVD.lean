import Derived.Test.YtcfdkadhclickaaDoorVB
import Derived.Test.YtcfdkadhclickaaDoorGA
import Derived.Lib.ValidU
namespace Go.Proofs.YtcfdkadhclickaaDoor.Kit
open Go.RowKit Go.Shelf Go.Deep
set_option linter.unusedVariables false

/-! ### values as they lie in memory -/
instance (n : Int) : Decidable (is64 n) := by unfold is64; infer_instance
/-- four cells: a value -/
structure VCells (W : World) (b o : Nat) (v : VT) (ao : Option Addr) (ca : Nat) : Prop where
  c0 : W.cell? ⟨b, o, none⟩ = some (.bool v.nul)
  c1 : W.cell? ⟨b, o + 1, none⟩ = some (.int .i64 v.num)
  c2 : W.cell? ⟨b, o + 2, none⟩ = some (.string v.text)
  c3 : W.cell? ⟨b, o + 3, none⟩ = some (.slice ao v.list.length ca)
def VOk (v : VT) : Prop := is64 v.num ∧ v.text.size ≤ big
/-- a list of values lies in blocks of S; d: no deeper -/
def VRow (S : Nat → Prop) (W : World) : Nat → Option Addr → List VT → Prop
  | 0, _, l => l = []
  | d + 1, ao, l => l.length ≤ big ∧ (l ≠ [] → ∃ b o, ao = some ⟨b, o, none⟩ ∧ S b ∧ ∀ i (h : i < l.length), ∃ ao' ca', VCells W b (o + i * 4) l[i] ao' ca' ∧ l[i].list.length ≤ ca' ∧ VOk l[i] ∧ VRow S W d ao' l[i].list)
theorem VCells.kept {W W' : World} {b o : Nat} {v : VT} {ao : Option Addr} {ca : Nat} (h : VCells W b o v ao ca) (e : W'.heap[b]? = W.heap[b]?) : VCells W' b o v ao ca := by
  have k : ∀ j, W'.cell? ⟨b, j, none⟩ = W.cell? ⟨b, j, none⟩ := fun j => World.cell?_of_block (w := W) e
  exact ⟨(k _).trans h.c0, (k _).trans h.c1, (k _).trans h.c2, (k _).trans h.c3⟩
theorem VRow.kept {S : Nat → Prop} {W W' : World} (k : KpOf S W W') : ∀ {d : Nat} {ao : Option Addr} {l : List VT}, VRow S W d ao l → VRow S W' d ao l
  | 0, _, _, h => h
  | _ + 1, _, _, h => ⟨h.1, fun hn => by
    obtain ⟨b, o, e, hb, hi⟩ := h.2 hn
    refine ⟨b, o, e, hb, fun i hl => ?_⟩
    obtain ⟨ao', ca', hc, hle, hv, hr⟩ := hi i hl
    exact ⟨ao', ca', hc.kept (k b hb), hle, hv, VRow.kept k hr⟩⟩
theorem VRow.len {S : Nat → Prop} {W : World} {d : Nat} {ao : Option Addr} {l : List VT} (h : VRow S W d ao l) : l.length ≤ big := by
  cases d with
  | zero => have : l = [] := h; subst this; simp [big]
  | succ d => exact h.1
/-- no deeper -/
def vdeep : Nat → List VT → Prop
  | 0, l => l = []
  | d + 1, l => ∀ v ∈ l, vdeep d v.list
theorem VRow.deep {S : Nat → Prop} {W : World} : ∀ {d : Nat} {ao : Option Addr} {l : List VT}, VRow S W d ao l → vdeep d l
  | 0, _, _, h => h
  | d + 1, _, l, h => fun f hf => by
    obtain ⟨i, hi, rfl⟩ := List.mem_iff_getElem.1 hf
    obtain ⟨b, o, _, _, hc⟩ := h.2 (fun e => by subst e; simp at hi)
    obtain ⟨ao', ca', _, _, _, hr⟩ := hc i hi
    exact VRow.deep hr
/-- a row that is no deeper is one of more depth -/
theorem VRow.more {S : Nat → Prop} {W : World} : ∀ {d e : Nat} {ao : Option Addr} {l : List VT}, d ≤ e → VRow S W d ao l → VRow S W e ao l
  | 0, 0, _, _, _, h => h
  | 0, e + 1, _, l, _, h => by have : l = [] := h; subst this; exact ⟨by simp [big], fun h => absurd rfl h⟩
  | d + 1, 0, _, _, h, _ => by omega
  | d + 1, e + 1, _, _, hle, h => ⟨h.1, fun hn => by
    obtain ⟨b, o, e, hb, hi⟩ := h.2 hn
    refine ⟨b, o, e, hb, fun i hl => ?_⟩
    obtain ⟨ao', ca', hc, hle', hv, hr⟩ := hi i hl
    exact ⟨ao', ca', hc, hle', hv, VRow.more (by omega) hr⟩⟩

/-! ### which values fit: what is left of the weight -/
def numB (k n : Int) : Bool :=
  if k = 2 then n == 0 || n == 1 else if k = 3 then decide (-128 ≤ n) && decide (n ≤ 127) else if k = 4 then decide (-32768 ≤ n) && decide (n ≤ 32767) else if k = 5 then decide (-2147483648 ≤ n) && decide (n ≤ 2147483647)
  else if k = 7 then decide (0 ≤ n) && decide (n ≤ 255) else if k = 8 then decide (0 ≤ n) && decide (n ≤ 65535) else if k = 9 then decide (0 ≤ n) && decide (n ≤ 4294967295)
  else k == 6 || k == 10 || k == 11
def fitsL (r : VT → Int → Option Int) : List VT → Int → Option Int
  | [], l => some l
  | x :: xs, l => (r x l).bind (fitsL r xs)
def fitsP (r : FT → VT → Int → Option Int) : List FT → List VT → Int → Option Int
  | f :: fs, x :: xs, l => (r f x l).bind (fitsP r fs xs)
  | _, _, l => some l
def weigh (r : VT → Int → Option Int) (v : VT) (l : Int) : Option Int := if (16 + v.text.size : Int) ≤ l then r v (l - (16 + v.text.size)) else none
def fitsB (r : FT → VT → Int → Option Int) (f : FT) (v : VT) (l : Int) : Option Int :=
  if v.nul = true then (if f.nul = true ∧ v.num = 0 ∧ v.text.size = 0 ∧ v.list = [] then some l else none)
  else if f.kind = 12 then (if v.num = 0 ∧ v.list = [] ∧ Lib.validD v.text.data.toList = true then some l else none)
  else if f.kind = 13 then (if v.num = 0 ∧ v.list = [] then some l else none)
  else if f.kind = 14 then (if v.num = 0 ∧ v.list = [] ∧ (v.text.size : Int) = f.width then some l else none)
  else if f.kind = 15 then (if v.num = 0 ∧ v.text.size = 0 ∧ v.list.length ≤ 4096 then fitsL (weigh (r f.kids.head!)) v.list l else none)
  else if f.kind = 16 then (if v.num = 0 ∧ v.text.size = 0 ∧ (v.list.length : Int) = f.width ∧ v.list.length ≤ 4096 then fitsL (weigh (r f.kids.head!)) v.list l else none)
  else if f.kind = 17 then (if v.num = 0 ∧ v.text.size = 0 ∧ v.list.length = f.kids.length then fitsP (fun g => weigh (r g)) f.kids v.list l else none)
  else if f.kind = 18 then (if v.text.size = 0 ∧ 0 ≤ v.num ∧ v.num < (f.kids.length : Int) ∧ v.list.length = 1 then weigh (r (f.kids.getD v.num.toNat default)) v.list.head! l else none)
  else if f.kind = 19 ∨ f.kind = 20 then r f.kids.head! v l
  else (if v.text.size = 0 ∧ v.list = [] ∧ is64 v.num ∧ numB f.kind v.num = true then some l else none)
def fitsT : Nat → FT → VT → Int → Option Int
  | 0, _, _, _ => none
  | n + 1, f, v, l => fitsB (fitsT n) f v l

theorem size_nil {t : ByteArray} (h : t.size = 0) : t = ⟨#[]⟩ := by
  cases t with | mk d => exact congrArg ByteArray.mk (Array.eq_empty_of_size_eq_zero h)
/-- no weight is won -/
def Falls (r : VT → Int → Option Int) : Prop := ∀ v l l', 0 ≤ l → r v l = some l' → 0 ≤ l' ∧ l' ≤ l
theorem Falls.weigh {r : VT → Int → Option Int} (h : Falls r) : Falls (weigh r) := by
  intro v l l' hl e
  unfold Kit.weigh at e
  split at e
  · rename_i c
    have := h v _ l' (by omega) e
    omega
  · cases e
theorem Falls.list {r : VT → Int → Option Int} (h : Falls r) : ∀ (xs : List VT) (l l' : Int), 0 ≤ l → fitsL r xs l = some l' → 0 ≤ l' ∧ l' ≤ l
  | [], l, l', hl, e => by cases e; omega
  | x :: xs, l, l', hl, e => by
    rw [fitsL] at e
    cases e1 : r x l with
    | none => rw [e1] at e; cases e
    | some l1 =>
      rw [e1] at e
      have h1 := h x l l1 hl e1
      have := Falls.list h xs l1 l' h1.1 e
      omega
theorem falls_parts {r : FT → VT → Int → Option Int} (h : ∀ f, Falls (r f)) : ∀ (fs : List FT) (xs : List VT) (l l' : Int), 0 ≤ l → fitsP r fs xs l = some l' → 0 ≤ l' ∧ l' ≤ l
  | [], xs, l, l', hl, e => by simp [fitsP] at e; omega
  | f :: fs, [], l, l', hl, e => by simp [fitsP] at e; omega
  | f :: fs, x :: xs, l, l', hl, e => by
    rw [fitsP] at e
    cases e1 : r f x l with
    | none => rw [e1] at e; cases e
    | some l1 =>
      rw [e1] at e
      have h1 := h f x l l1 hl e1
      have := falls_parts h fs xs l1 l' h1.1 e
      omega
theorem falls_fits : ∀ (n : Nat) (f : FT), Falls (fitsT n f)
  | 0, f => fun v l l' _ e => by cases e
  | n + 1, f => fun v l l' hl e => by
    have ih := falls_fits n
    have leaf : ∀ {p : Prop} [Decidable p], (if p then some l else none) = some l' → 0 ≤ l' ∧ l' ≤ l := fun {p} _ h => by
      split at h
      · cases h; omega
      · cases h
    rw [fitsT, fitsB] at e
    split at e
    · exact leaf e
    split at e
    · exact leaf e
    split at e
    · exact leaf e
    split at e
    · exact leaf e
    split at e
    · split at e
      · exact (ih _).weigh.list _ _ _ hl e
      · cases e
    split at e
    · split at e
      · exact (ih _).weigh.list _ _ _ hl e
      · cases e
    split at e
    · split at e
      · exact falls_parts (fun g => (ih g).weigh) _ _ _ _ hl e
      · cases e
    split at e
    · split at e
      · exact (ih _).weigh _ _ _ hl e
      · cases e
    split at e
    · exact ih _ _ _ _ hl e
    · exact leaf e
theorem fitsL_all {r : VT → Int → Option Int} {P : VT → Prop} (h : ∀ v l l', r v l = some l' → P v) : ∀ (xs : List VT) (l l' : Int), fitsL r xs l = some l' → ∀ x ∈ xs, P x
  | [], _, _, _, x, hx => by cases hx
  | y :: ys, l, l', e, x, hx => by
    rw [fitsL] at e
    cases e1 : r y l with
    | none => rw [e1] at e; cases e
    | some l1 =>
      rw [e1] at e
      rcases List.mem_cons.1 hx with rfl | hx
      · exact h _ _ _ e1
      · exact fitsL_all h ys l1 l' e x hx
theorem fitsP_all {r : FT → VT → Int → Option Int} {P : FT → VT → Prop} (h : ∀ f v l l', r f v l = some l' → P f v) : ∀ (fs : List FT) (xs : List VT) (l l' : Int), xs.length = fs.length → fitsP r fs xs l = some l' → Parts (fs.map P) xs
  | [], xs, _, _, hl, _ => List.eq_nil_of_length_eq_zero (by simpa using hl)
  | f :: fs, [], _, _, hl, _ => by simp at hl
  | f :: fs, x :: xs, l, l', hl, e => by
    rw [fitsP] at e
    cases e1 : r f x l with
    | none => rw [e1] at e; cases e
    | some l1 =>
      rw [e1] at e
      exact ⟨x, xs, rfl, h _ _ _ _ e1, fitsP_all h fs xs l1 l' (by simpa using hl) e⟩
theorem weigh_all {r : VT → Int → Option Int} {P : VT → Prop} (h : ∀ v l l', r v l = some l' → P v) : ∀ v l l', weigh r v l = some l' → P v := fun v l l' e => by
  unfold weigh at e
  split at e
  · exact h _ _ _ e
  · cases e
/-- what fits has the shape -/
theorem fits_shape : ∀ (n : Nat) (f : FT) (v : VT) (l l' : Int), fitsT n f v l = some l' → shape n f v
  | 0, f, v, l, l', e => by cases e
  | n + 1, f, v, l, l', e => by
    have ih := fits_shape n
    have some_of : ∀ {p : Prop} [Decidable p] {o : Option Int}, (if p then o else none) = some l' → p ∧ o = some l' := fun {p} _ o h => by
      split at h
      · rename_i c; exact ⟨c, h⟩
      · cases h
    rw [fitsT, fitsB] at e
    split at e
    · rename_i hn
      obtain ⟨⟨_, h1, h2, h3⟩, _⟩ := some_of e
      exact ⟨fun _ => ⟨h1, size_nil h2, h3⟩, fun h => by rw [hn] at h; cases h⟩
    rename_i hn
    refine ⟨fun h => absurd h hn, fun hf => ?_⟩
    unfold shapeB
    by_cases k12 : f.kind = 12
    · rw [if_pos k12] at e
      obtain ⟨⟨h1, h2, _⟩, _⟩ := some_of e
      rw [if_pos (.inl k12)]
      exact ⟨h1, h2⟩
    rw [if_neg k12] at e
    by_cases k13 : f.kind = 13
    · rw [if_pos k13] at e
      obtain ⟨⟨h1, h2⟩, _⟩ := some_of e
      rw [if_pos (.inr (.inl k13))]
      exact ⟨h1, h2⟩
    rw [if_neg k13] at e
    by_cases k14 : f.kind = 14
    · rw [if_pos k14] at e
      obtain ⟨⟨h1, h2, _⟩, _⟩ := some_of e
      rw [if_pos (.inr (.inr k14))]
      exact ⟨h1, h2⟩
    rw [if_neg k14] at e
    rw [if_neg (by omega)]
    by_cases k15 : f.kind = 15
    · rw [if_pos k15] at e
      obtain ⟨⟨h1, h2, _⟩, h3⟩ := some_of e
      rw [if_pos (.inl k15)]
      exact ⟨h1, size_nil h2, fitsL_all (weigh_all (ih _)) _ _ _ h3⟩
    rw [if_neg k15] at e
    by_cases k16 : f.kind = 16
    · rw [if_pos k16] at e
      obtain ⟨⟨h1, h2, _⟩, h3⟩ := some_of e
      rw [if_pos (.inr k16)]
      exact ⟨h1, size_nil h2, fitsL_all (weigh_all (ih _)) _ _ _ h3⟩
    rw [if_neg k16] at e
    rw [if_neg (by omega)]
    by_cases k17 : f.kind = 17
    · rw [if_pos k17] at e
      obtain ⟨⟨h1, h2, h4⟩, h3⟩ := some_of e
      rw [if_pos k17]
      exact ⟨h1, size_nil h2, fitsP_all (fun f => weigh_all (ih f)) _ _ _ _ h4 h3⟩
    rw [if_neg k17] at e
    rw [if_neg k17]
    by_cases k18 : f.kind = 18
    · rw [if_pos k18] at e
      obtain ⟨⟨h1, h2, h4, h5⟩, h3⟩ := some_of e
      rw [if_pos k18]
      obtain ⟨x, hx⟩ := List.length_eq_one_iff.1 h5
      rw [hx] at h3
      exact ⟨size_nil h1, x, hx, weigh_all (ih _) _ _ _ h3⟩
    rw [if_neg k18] at e
    rw [if_neg k18]
    by_cases k19 : f.kind = 19 ∨ f.kind = 20
    · rw [if_pos k19] at e
      rw [if_pos k19]
      exact ⟨ih _ _ _ _ e, hf⟩
    rw [if_neg k19] at e
    rw [if_neg k19]
    obtain ⟨⟨h1, h2, h3, _⟩, _⟩ := some_of e
    exact ⟨size_nil h1, h2, h3⟩

/-! ### a field that may be: each within has its children -/
def okF : Nat → FT → Prop
  | 0, _ => False
  | n + 1, f => tableB f = true ∧ ∀ k ∈ f.kids, okF n k
def pre : Nat → List FT → List FT
  | 0, _ => []
  | d + 1, l => l.flatMap fun f => f :: pre d f.kids
def deep : Nat → List FT → Prop
  | 0, l => l = []
  | d + 1, l => ∀ f ∈ l, deep d f.kids
theorem RowAt.deep {S : Nat → Prop} {W : World} : ∀ {d : Nat} {ao : Option Addr} {l : List FT}, RowAt S W d ao l → Kit.deep d l
  | 0, _, _, h => h
  | d + 1, _, l, h => fun f hf => by
    obtain ⟨i, hi, rfl⟩ := List.mem_iff_getElem.1 hf
    obtain ⟨b, o, _, _, hc⟩ := h.2 (fun e => by subst e; simp at hi)
    obtain ⟨ao', ca', _, _, hr⟩ := hc i hi
    exact RowAt.deep hr
theorem nodes_pre : ∀ (d : Nat) (l : List FT) (path : List Nat) (inD : Bool), (nodes d l path inD).map LS.fld = pre d l
  | 0, _, _, _ => rfl
  | d + 1, l, path, inD => by
    have key : ∀ n, n ≤ l.length → (upto d l path inD n).map LS.fld = (l.take n).flatMap fun f => f :: pre d f.kids := by
      intro n
      induction n with
      | zero => intro _; simp [upto_zero]
      | succ n ih =>
        intro hn
        have hx : LS.fld ⟨l, path ++ [n], inD⟩ = l[n] := by
          have hi : LS.idx ⟨l, path ++ [n], inD⟩ = n := by simp [LS.idx]
          unfold LS.fld
          rw [hi]
          simp [List.getElem?_eq_getElem (show n < l.length by omega)]
        have hb : l[n]! = l[n] := getElem!_pos l n (by omega)
        rw [upto_succ, List.map_append, ih (by omega), List.map_cons, nodes_pre d, hx, hb, List.take_succ_eq_append_getElem (by omega), List.flatMap_append]
        simp
    have := key l.length (Nat.le_refl _)
    rw [nodes_succ, this, List.take_length]
    rfl
theorem okF_of_pre : ∀ (d : Nat) (l : List FT), deep d l → (∀ x ∈ pre d l, tableB x = true) → ∀ k ∈ l, okF d k
  | 0, l, hd, _, k, hk => by have : l = [] := hd; subst this; cases hk
  | d + 1, l, hd, h, k, hk => by
    have hin : ∀ x ∈ k :: pre d k.kids, x ∈ pre (d + 1) l := fun x hx => List.mem_flatMap.2 ⟨k, hk, hx⟩
    exact ⟨h _ (hin _ (by simp)), okF_of_pre d k.kids (hd k hk) fun x hx => h _ (hin _ (by simp [hx]))⟩
theorem wrt_tab {m : Nat} {ahead : Int} {nameR : Bool} {idx i : Int} {tabR nulR inD : Bool} {f2 : Int} {kid tk : Bool} (h : wr m ahead nameR idx i tabR nulR inD f2 kid tk = 0) : tabR = true := by
  unfold wr at h
  cases tabR with
  | true => rfl
  | false => simp at h; split at h <;> (try split at h) <;> (try split at h) <;> (try split at h) <;> omega
theorem AllR.tab {N : List LS} (h : AllR N) : ∀ x ∈ N, tableB x.fld = true := fun x hx => by
  obtain ⟨i, hi, rfl⟩ := List.mem_iff_getElem.1 hx
  exact wrt_tab (h i hi)
theorem AllR.okF {d : Nat} {f : FT} (h : AllR (nodes (d + 1) [f] [] false)) (hd : deep d f.kids) : Kit.okF (d + 1) f := by
  refine okF_of_pre (d + 1) [f] (fun g hg => by rw [List.mem_singleton.1 hg]; exact hd) (fun x hx => ?_) f (by simp)
  rw [← nodes_pre (d + 1) [f] [] false] at hx
  obtain ⟨y, hy, rfl⟩ := List.mem_map.1 hx
  exact h.tab y hy
theorem tab_kid {f : FT} (h : tableB f = true) (k : f.kind = 15 ∨ f.kind = 16 ∨ f.kind = 19 ∨ f.kind = 20) : f.kids ≠ [] := by
  unfold tableB at h
  intro e
  rw [e] at h
  rcases k with k | k | k | k <;> rw [k] at h <;> simp [leastK] at h
theorem tab_kind {f : FT} (h : tableB f = true) : 1 ≤ f.kind ∧ f.kind ≤ 20 := by
  unfold tableB kindB at h
  simp at h
  omega
end Go.Proofs.YtcfdkadhclickaaDoor.Kit
