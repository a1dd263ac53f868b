import Derived.Test.YtdffjdlpbfcikaaDoorVC
namespace Go.Proofs.YtdffjdlpbfcikaaDoor.Kit
open Go.RowKit Go.Shelf Go.Deep
set_option linter.unusedVariables false

/-! ### the reader, as a function of the bytes: where it stands, and how many fields were begun -/
/-- a number of some bytes, the lowest first -/
def leN : List UInt8 → Nat
  | [] => 0
  | b :: l => b.toNat + 256 * leN l
theorem leN_lt : ∀ l : List UInt8, leN l < 256 ^ l.length
  | [] => by simp [leN]
  | b :: l => by
    have h1 := leN_lt l
    have h2 := b.toNat_lt
    rw [leN, List.length_cons, Nat.pow_succ]
    omega
abbrev St := Nat × Nat
abbrev Rd (α : Type) := St → Except (Int × Nat) (α × St)
def Rd.bind {α β : Type} (r : Rd α) (f : α → Rd β) : Rd β := fun s =>
  match r s with
  | .ok (a, s') => f a s'
  | .error e => .error e
def Rd.pure {α : Type} (a : α) : Rd α := fun s => .ok (a, s)
theorem Rd.bind_ok {α β : Type} {r : Rd α} {f : α → Rd β} {s s' : St} {a : α} (h : r s = .ok (a, s')) : r.bind f s = f a s' := by
  unfold Rd.bind; rw [h]
theorem Rd.bind_err {α β : Type} {r : Rd α} {f : α → Rd β} {s : St} {e : Int × Nat} (h : r s = .error e) : r.bind f s = .error e := by
  unfold Rd.bind; rw [h]
def numR (B : List UInt8) (k : Nat) : Rd Nat := fun s => if s.1 + k ≤ B.length then .ok (leN ((B.drop s.1).take k), (s.1 + k, s.2)) else .error (51, s.1)
def amongR (B : List UInt8) (lo hi : Nat) : Rd Nat := fun s => (numR B 1).bind (fun n s' => if n < lo ∨ hi < n then .error (8, s.1) else .ok (n, s')) s
def flagR (B : List UInt8) : Rd Bool := (amongR B 0 1).bind fun n => Rd.pure (n == 1)
def bytesR (B : List UInt8) (n : Nat) : Rd ByteArray := fun s => if s.1 + n ≤ B.length then .ok (⟨((B.drop s.1).take n).toArray⟩, (s.1 + n, s.2)) else .error (51, s.1)
def textR (B : List UInt8) (k : Nat) : Rd ByteArray := (numR B k).bind (bytesR B)
def nodeR (B : List UInt8) : Rd (Int × Int) := (numR B 4).bind fun x => (numR B 4).bind fun y => Rd.pure ((x : Int), (y : Int))
def slotR (B : List UInt8) : Rd (Int × Int × Int) := (numR B 4).bind fun x => (numR B 4).bind fun y => (numR B 4).bind fun z => Rd.pure ((x : Int), (y : Int), (z : Int))
def noteR (B : List UInt8) : Rd (ByteArray × ByteArray) := (textR B 2).bind fun x => (textR B 2).bind fun y => Rd.pure (x, y)
def sevK {α : Type} (r : Rd α) : Nat → List α → Rd (List α)
  | 0, acc => Rd.pure acc
  | n + 1, acc => r.bind fun x => sevK r n (acc ++ [x])
def sevR {α : Type} (n : Nat) (r : Rd α) : Rd (List α) := sevK r n []
/-- what a kind has besides: width, ID, index, how many children -/
def extR (B : List UInt8) (k : Nat) : Rd (Nat × Nat × Nat × Nat) :=
  if k = 14 then (numR B 2).bind fun x => Rd.pure (x, 0, 0, 0)
  else if k = 16 then (numR B 2).bind fun x => Rd.pure (x, 0, 0, 1)
  else if k = 19 then (numR B 2).bind fun x => (numR B 1).bind fun y => Rd.pure (0, x, y, 1)
  else if k = 15 ∨ k = 20 then Rd.pure (0, 0, 0, 1)
  else if k = 17 ∨ k = 18 then (numR B 1).bind fun x => Rd.pure (0, 0, 0, x)
  else Rd.pure (0, 0, 0, 0)
structure TD where
  kind : Nat
  width : Nat
  id : Nat
  index : Nat
  kids : List FT
def typR (B : List UInt8) (rec : Rd FT) : Rd TD :=
  (amongR B 1 20).bind fun k => (extR B k).bind fun e => (sevR e.2.2.2 rec).bind fun l => Rd.pure ⟨k, e.1, e.2.1, e.2.2.1, l⟩
def fieldR (B : List UInt8) : Nat → Rd FT
  | 0 => fun s => .error (50, s.1)
  | d + 1 => fun s => if s.2 = 256 then .error (50, s.1) else
      ((textR B 1).bind fun nm => (flagR B).bind fun nu => (typR B (fieldR B d)).bind fun t => Rd.pure (.mk nm nu t.kind t.width t.id t.index t.kids)) (s.1, s.2 + 1)
structure HD where
  kind : Nat
  fs : List FT
  ns : List (ByteArray × ByteArray)
  id : Nat
  delta : Bool
  rows : Nat
  press : Nat
  nds : List (Int × Int)
  sls : List (Int × Int × Int)
def schR (B : List UInt8) : Rd (List FT × List (ByteArray × ByteArray)) :=
  (numR B 2).bind fun n => (sevR n (fieldR B 64)).bind fun fs => (numR B 2).bind fun m => (sevR m (noteR B)).bind fun ns => Rd.pure (fs, ns)
def bodyR (B : List UInt8) (k id : Nat) (dl : Bool) : Rd HD :=
  (numR B 4).bind fun rows => (numR B 1).bind fun pr => (numR B 2).bind fun n => (sevR n (nodeR B)).bind fun nds => (numR B 2).bind fun m => (sevR m (slotR B)).bind fun sls => Rd.pure ⟨k, [], [], id, dl, rows, pr, nds, sls⟩
def headR (B : List UInt8) : Rd HD :=
  (amongR B 1 3).bind fun k => (amongR B 1 1).bind fun _ => (amongR B 0 0).bind fun _ => (amongR B 0 0).bind fun _ =>
    if k = 1 then (schR B).bind fun p => Rd.pure ⟨k, p.1, p.2, 0, false, 0, 0, [], []⟩
    else if k = 2 then (numR B 2).bind fun i => (flagR B).bind fun d => bodyR B k i d
    else bodyR B k 0 false
/-! ### what is laid is read -/
def Enc {α : Type} (R : List UInt8 → Rd α) (b : List UInt8) (x : α) (c : Nat) : Prop :=
  ∀ pre post g, g + c ≤ 256 → R (pre ++ b ++ post) (pre.length, g) = .ok (x, (pre.length + b.length, g + c))
theorem Enc.bind {α β : Type} {R : List UInt8 → Rd α} {f : List UInt8 → α → Rd β} {b1 b2 : List UInt8} {x : α} {y : β} {c1 c2 : Nat} (h1 : Enc R b1 x c1) (h2 : Enc (fun B => f B x) b2 y c2) : Enc (fun B => (R B).bind (f B)) (b1 ++ b2) y (c1 + c2) := by
  intro pre post g hg
  have e1 := h1 pre (b2 ++ post) g (by omega)
  have e2 := h2 (pre ++ b1) post (g + c1) (by omega)
  have e : pre ++ (b1 ++ b2) ++ post = pre ++ b1 ++ (b2 ++ post) := by simp
  have e' : pre ++ b1 ++ (b2 ++ post) = pre ++ b1 ++ b2 ++ post := by simp
  show Rd.bind (R (pre ++ (b1 ++ b2) ++ post)) (f (pre ++ (b1 ++ b2) ++ post)) (pre.length, g) = _
  rw [e, Rd.bind_ok e1, e']
  rw [List.length_append] at e2
  refine Eq.trans e2 ?_
  simp [Nat.add_assoc]
theorem Enc.pure {α : Type} (x : α) : Enc (fun _ => Rd.pure x) [] x 0 := fun pre post g _ => by simp [Rd.pure]
theorem Enc.last {α β : Type} {R : List UInt8 → Rd α} {f : α → β} {b : List UInt8} {x : α} {c : Nat} (h : Enc R b x c) : Enc (fun B => (R B).bind fun y => Rd.pure (f y)) b (f x) c := by
  have := h.bind (f := fun _ y => Rd.pure (f y)) (Enc.pure (f x))
  simpa using this
theorem Enc.to {α : Type} {R : List UInt8 → Rd α} {b b' : List UInt8} {x : α} {c c' : Nat} (h : Enc R b x c) (hb : b' = b) (hc : c' = c) : Enc R b' x c' := by rw [hb, hc]; exact h
theorem leN_numB (x : Nat) : ∀ k, leN (numB x k) = x % 256 ^ k := by
  have app : ∀ (a : List UInt8) (b : UInt8), leN (a ++ [b]) = leN a + 256 ^ a.length * b.toNat := by
    intro a b
    induction a with
    | nil => simp [leN]
    | cons y l ih =>
      rw [List.cons_append, leN, ih, leN, List.length_cons, Nat.pow_succ, Nat.mul_add, Nat.add_assoc]
      congr 2
      rw [Nat.mul_comm (256 ^ l.length) 256, Nat.mul_assoc]
  intro k
  induction k with
  | zero => simp [numB, leN, Nat.mod_one]
  | succ k ih =>
    rw [numB, app, ih, numB_len]
    have h1 : (UInt8.ofNat (x / 256 ^ k % 256)).toNat = x / 256 ^ k % 256 := by
      rw [UInt8.toNat_ofNat']
      exact Nat.mod_eq_of_lt (Nat.mod_lt _ (by decide))
    rw [h1, Nat.pow_succ, Nat.mod_mul]
theorem mid_take {pre b post : List UInt8} : ((pre ++ b ++ post).drop pre.length).take b.length = b := by
  rw [List.append_assoc, List.drop_left, List.take_left]
theorem enc_num {x k : Nat} (h : x < 256 ^ k) : Enc (fun B => numR B k) (numB x k) x 0 := by
  intro pre post g _
  have hl := numB_len x k
  have e : ((pre ++ numB x k ++ post).drop pre.length).take k = numB x k := by
    have := mid_take (pre := pre) (b := numB x k) (post := post)
    rwa [hl] at this
  show numR (pre ++ numB x k ++ post) k (pre.length, g) = _
  unfold numR
  rw [if_pos (by rw [List.length_append, List.length_append, hl]; omega)]
  simp only [e, leN_numB, Nat.mod_eq_of_lt h, hl, Nat.add_zero]
theorem enc_among {x lo hi : Nat} (h1 : lo ≤ x) (h2 : x ≤ hi) (h : x < 256) : Enc (fun B => amongR B lo hi) (numB x 1) x 0 := by
  intro pre post g hg
  have e := enc_num (k := 1) (by simpa using h) pre post g hg
  show amongR (pre ++ numB x 1 ++ post) lo hi (pre.length, g) = _
  unfold amongR
  rw [Rd.bind_ok e, if_neg (by omega)]
theorem enc_flag (b : Bool) : Enc flagR (flgB b) b 0 := by
  have e : flgB b = numB (if b then 1 else 0) 1 := by cases b <;> rfl
  rw [e]
  have h := (enc_among (x := if b then 1 else 0) (lo := 0) (hi := 1) (by omega) (by split <;> omega) (by split <;> omega)).last (f := fun n => n == 1)
  have e2 : ((if b = true then 1 else 0 : Nat) == 1) = b := by cases b <;> rfl
  rw [e2] at h
  exact h
theorem enc_bytes (s : ByteArray) : Enc (fun B => bytesR B s.size) s.data.toList s 0 := by
  intro pre post g _
  have hl : s.data.toList.length = s.size := Array.length_toList
  have e : ((pre ++ s.data.toList ++ post).drop pre.length).take s.size = s.data.toList := by
    have := mid_take (pre := pre) (b := s.data.toList) (post := post)
    rwa [hl] at this
  show bytesR (pre ++ s.data.toList ++ post) s.size (pre.length, g) = _
  unfold bytesR
  rw [if_pos (by rw [List.length_append, List.length_append, hl]; omega)]
  simp only [e, hl, Nat.add_zero]
theorem enc_text {s : ByteArray} {k : Nat} (h : s.size < 256 ^ k) : Enc (fun B => textR B k) (txtB s k) s 0 := (enc_num h).bind (f := bytesR) (enc_bytes s)
theorem enc_sevK {α : Type} {R : List UInt8 → Rd α} {enc : α → List UInt8} {c : α → Nat} : ∀ (l acc : List α), (∀ x ∈ l, Enc R (enc x) x (c x)) → Enc (fun B => sevK (R B) l.length acc) (l.flatMap enc) (acc ++ l) (l.map c).sum
  | [], acc, _ => by simpa [sevK] using Enc.pure acc
  | x :: l, acc, h => by
    have h1 := h x List.mem_cons_self
    have h2 := enc_sevK l (acc ++ [x]) fun y hy => h y (List.mem_cons_of_mem _ hy)
    have := h1.bind (f := fun B y => sevK (R B) l.length (acc ++ [y])) h2
    simpa [sevK] using this
theorem enc_sev {α : Type} {R : List UInt8 → Rd α} {enc : α → List UInt8} {c : α → Nat} {n : Nat} (l : List α) (hn : l.length = n) (h : ∀ x ∈ l, Enc R (enc x) x (c x)) : Enc (fun B => sevR n (R B)) (l.flatMap enc) l (l.map c).sum := by
  subst hn
  simpa [sevR] using enc_sevK l [] h
end Go.Proofs.YtdffjdlpbfcikaaDoor.Kit
