import Derived.Test.YtkodgneneiledaaGreatDoorYJ
import Derived.Test.YtkodgneneiledaaGreatDoorZA
namespace Go.Proofs.YtkodgneneiledaaGreatDoor.Kit
open Go.RowKit Go.Shelf Go.Deep
set_option linter.unusedVariables false
attribute [local go_sem] run_store_func
theorem Pr.assoc {α β γ : Type} (r : Pr α) (f : α → Pr β) (h : β → Pr γ) : (r.bind f).bind h = r.bind fun x => (f x).bind h := by
  funext s
  unfold Pr.bind
  cases r s with
  | error o => rfl
  | ok y => rfl
theorem Pr.pureB {α β : Type} (x : α) (f : α → Pr β) : (Pr.pure x).bind f = f x := rfl
theorem Pr.iteB {α β : Type} {c : Prop} [Decidable c] (r t : Pr α) (f : α → Pr β) : (if c then r else t).bind f = if c then r.bind f else t.bind f := by split <;> rfl
def inrP (T : List UInt8) (r : Pr FT) (k : Int) : Pr TP := (mustP T 40).bind fun _ => (innP T r k).bind fun t => (mustP T 41).bind fun _ => Pr.pure t
def oneP (r : Pr FT) : Pr (List FT) := r.bind fun f => Pr.pure [f]
theorem inr14 (T : List UInt8) (r : Pr FT) : inrP T r 14 = (mustP T 40).bind fun _ => (meanP T numO).bind fun x => (mustP T 41).bind fun _ => Pr.pure ⟨x, 0, 0, []⟩ := by
  simp [inrP, innP, Pr.assoc, Pr.pureB]
theorem inr15 (T : List UInt8) (r : Pr FT) : inrP T r 15 = (mustP T 40).bind fun _ => (oneP r).bind fun l => (mustP T 41).bind fun _ => Pr.pure ⟨0, 0, 0, l⟩ := by
  simp [inrP, innP, Pr.assoc, Pr.pureB, oneP]
theorem inr16 (T : List UInt8) (r : Pr FT) : inrP T r 16 = (mustP T 40).bind fun _ => (meanP T numO).bind fun x => (mustP T 44).bind fun _ => (oneP r).bind fun l => (mustP T 41).bind fun _ => Pr.pure ⟨x, 0, 0, l⟩ := by
  simp [inrP, innP, Pr.assoc, Pr.pureB, oneP]
theorem inr17 (T : List UInt8) (r : Pr FT) : inrP T r 17 = (mustP T 40).bind fun _ => (fldsP T r true).bind fun l => (mustP T 41).bind fun _ => Pr.pure ⟨0, 0, 0, l⟩ := by
  simp [inrP, innP, Pr.assoc, Pr.pureB, Pr.iteB, fldsP, optP]
theorem inr18 (T : List UInt8) (r : Pr FT) : inrP T r 18 = (mustP T 40).bind fun _ => (fldsP T r false).bind fun l => (mustP T 41).bind fun _ => Pr.pure ⟨0, 0, 0, l⟩ := by
  simp [inrP, innP, Pr.assoc, Pr.pureB, fldsP]
theorem inr19 (T : List UInt8) (r : Pr FT) : inrP T r 19 = (mustP T 40).bind fun _ => (meanP T numO).bind fun x => (mustP T 44).bind fun _ => (meanP T indexO).bind fun y => (mustP T 44).bind fun _ => (oneP r).bind fun l => (mustP T 41).bind fun _ => Pr.pure ⟨0, x, y, l⟩ := by
  simp [inrP, innP, Pr.assoc, Pr.pureB, oneP]
theorem inr20 (T : List UInt8) (r : Pr FT) : inrP T r 20 = (mustP T 40).bind fun _ => (oneP r).bind fun l => (mustP T 41).bind fun _ => Pr.pure ⟨0, 0, 0, l⟩ := by
  simp [inrP, innP, Pr.assoc, Pr.pureB, oneP]
def bp {α β : Type} (y : Except Nat (α × Ps)) (f : α → Pr β) : Except Nat (β × Ps) := match y with | .ok (x, st) => f x st | .error o => .error o
theorem bp_start {α β : Type} (st : Ps) (r : Pr α) (f : α → Pr β) : r.bind f st = bp (bnd (.ok st) r) f := by
  show (match r st with | .ok (a, s') => f a s' | .error e => .error e) = bp (r st) f
  cases r st with
  | error o => rfl
  | ok y => rfl
theorem bp_step {α β γ : Type} (y : Except Nat (γ × Ps)) (r : Pr α) (f : α → Pr β) : bp y (fun _ => r.bind f) = bp (bnd (qs y) r) f := by
  cases y with
  | error o => rfl
  | ok z => exact bp_start z.2 r f
theorem bp_val {α β : Type} {y : Except Nat (α × Ps)} {n : α} (f : α → Pr β) (h : ∀ x st, y = .ok (x, st) → x = n) : bp y f = bp y (fun _ => f n) := by
  cases y with
  | error o => rfl
  | ok z => rw [← h z.1 z.2 rfl]; rfl
theorem bp_ok {α β : Type} {y : Except Nat (α × Ps)} {t : β} {u : α} {st : Ps} (h : y = .ok (u, st)) : bp y (fun _ => Pr.pure t) = .ok (t, st) := by rw [h]; rfl
theorem bp_err {α β : Type} {y : Except Nat (α × Ps)} {f : α → Pr β} {o : Nat} (h : y = .error o) : bp y f = .error o := by rw [h]; rfl
theorem bnd_from {α γ : Type} {y : Except Nat (γ × Ps)} {r : Pr α} {z : α × Ps} (h : bnd (qs y) r = .ok z) : ∃ x st, y = .ok (x, st) := by
  cases y with
  | error o => cases h
  | ok w => exact ⟨w.1, w.2, rfl⟩
def Ge (a : Nat) (q : Except Nat Ps) : Prop := ∀ st, q = .ok st → a ≤ st.1
theorem Ge.bnd {α : Type} {a : Nat} {q : Except Nat Ps} {r : Pr α} (h : Ge a q) (hr : Fw r) : Ge a (qs (bnd q r)) := fun st e => by
  cases q with
  | error o => cases e
  | ok s0 =>
    cases e2 : r s0 with
    | error o => simp [Kit.bnd, e2, qs] at e
    | ok y =>
      have : y.2 = st := by simpa [Kit.bnd, e2, qs] using e
      rw [← this]
      exact Nat.le_trans (h s0 rfl) (hr s0 y.1 y.2 e2).1
def XT (v : Value) : Prop := ∃ (k x y z : Int) (ko : Option Addr) (n kc : Nat), v = .agg #[.int .i64 k, .int .i64 x, .int .i64 y, .int .i64 z, .slice ko n kc]
structure IS (W U : World) (p : Nat) (s : ByteArray) (b c : Nat) (q : Except Nat Ps) (k x y z : Int) (kv : Value) : Prop where
  tb : TB W U p b c k x y z kv
  kp : KpN W U p
  ds : DS U p s q
theorem IS.call {W U U' : World} {p b c : Nat} {s : ByteArray} {q q' : Except Nat Ps} {k x y z : Int} {kv : Value} (h : IS W U p s b c q k x y z kv) (hk : KpN U U' p) (hd : DS U' p s q') : IS W U' p s b c q' k x y z kv := ⟨h.tb.kpn hk, h.kp.tr hk, hd⟩
theorem IS.kS {U : World} {c i : Nat} {v : Value} : Keeps U (U.setCell ⟨c, i, none⟩ v) (fun z => z = c) := (Keeps.refl U (fun z => z = c)).setCell (p := ⟨c, i, none⟩) (fun _ => rfl) _
theorem IS.gr {W U U' : World} {p b c : Nat} {s : ByteArray} {q : Except Nat Ps} {k x y z : Int} {kv : Value} (h : IS W U p s b c q k x y z kv) (hg : Gr U U') : IS W U' p s b c q k x y z kv := h.call (Gr.n p hg) (h.ds.gr hg)
theorem IS.set1 {W U : World} {p b c : Nat} {s : ByteArray} {q : Except Nat Ps} {k x y z : Int} {kv : Value} (h : IS W U p s b c q k x y z kv) (n : Int) : IS W (U.setCell ⟨c, 1, none⟩ (.int .i64 n)) p s b c q k n y z kv :=
  ⟨⟨(set_other _ (by have := h.tb.lt; omega)).trans h.tb.rb, heap_setCell_same _ c 1 _ _ _ h.tb.tb, h.tb.lt⟩, h.kp.trans IS.kS fun z hz e => by have := h.tb.lt; omega, h.ds.kept IS.kS fun z e => by rw [e]; exact ⟨h.tb.cok.1, h.tb.cok.2.2⟩⟩
theorem IS.set2 {W U : World} {p b c : Nat} {s : ByteArray} {q : Except Nat Ps} {k x y z : Int} {kv : Value} (h : IS W U p s b c q k x y z kv) (n : Int) : IS W (U.setCell ⟨c, 2, none⟩ (.int .i64 n)) p s b c q k x n z kv :=
  ⟨⟨(set_other _ (by have := h.tb.lt; omega)).trans h.tb.rb, heap_setCell_same _ c 2 _ _ _ h.tb.tb, h.tb.lt⟩, h.kp.trans IS.kS fun z hz e => by have := h.tb.lt; omega, h.ds.kept IS.kS fun z e => by rw [e]; exact ⟨h.tb.cok.1, h.tb.cok.2.2⟩⟩
theorem IS.set3 {W U : World} {p b c : Nat} {s : ByteArray} {q : Except Nat Ps} {k x y z : Int} {kv : Value} (h : IS W U p s b c q k x y z kv) (n : Int) : IS W (U.setCell ⟨c, 3, none⟩ (.int .i64 n)) p s b c q k x y n kv :=
  ⟨⟨(set_other _ (by have := h.tb.lt; omega)).trans h.tb.rb, heap_setCell_same _ c 3 _ _ _ h.tb.tb, h.tb.lt⟩, h.kp.trans IS.kS fun z hz e => by have := h.tb.lt; omega, h.ds.kept IS.kS fun z e => by rw [e]; exact ⟨h.tb.cok.1, h.tb.cok.2.2⟩⟩
theorem IS.set4 {W U : World} {p b c : Nat} {s : ByteArray} {q : Except Nat Ps} {k x y z : Int} {kv : Value} (h : IS W U p s b c q k x y z kv) (n : Value) : IS W (U.setCell ⟨c, 4, none⟩ n) p s b c q k x y z n :=
  ⟨⟨(set_other _ (by have := h.tb.lt; omega)).trans h.tb.rb, heap_setCell_same _ c 4 _ _ _ h.tb.tb, h.tb.lt⟩, h.kp.trans IS.kS fun z hz e => by have := h.tb.lt; omega, h.ds.kept IS.kS fun z e => by rw [e]; exact ⟨h.tb.cok.1, h.tb.cok.2.2⟩⟩
def RS (p : Nat) (V U : World) (D : Nat) (ko : Option Addr) (n kc : Nat) (y : Except Nat (List FT × Ps)) : Prop := ∀ l st, y = .ok (l, st) → n = l.length ∧ l.length ≤ kc ∧ RowAt (NB p V U) U D ko l
theorem RS.kp {p : Nat} {V U U' : World} {D : Nat} {ko : Option Addr} {n kc : Nat} {y : Except Nat (List FT × Ps)} (h : RS p V U D ko n kc y) (k : KpN U U' p) (hp : p < V.heap.size) : RS p V U' D ko n kc y := fun l st e =>
  ⟨(h l st e).1, (h l st e).2.1, (h l st e).2.2.nb (fun z hz => hz.kpn k hp) k.size⟩
theorem RS.set {p c : Nat} {V U U' : World} {D : Nat} {ko : Option Addr} {n kc : Nat} {y : Except Nat (List FT × Ps)} (h : RS p V U D ko n kc y) (k : Keeps U U' (fun z => z = c)) (hc : c < V.heap.size) : RS p V U' D ko n kc y := fun l st e =>
  ⟨(h l st e).1, (h l st e).2.1, (h l st e).2.2.nb (fun z hz => k.block z hz.2.1 (by have := hz.1; omega)) k.size⟩
def lOf (y : Except Nat (List FT × Ps)) : List FT := match y with | .ok (l, _) => l | .error _ => []
theorem lOf_ok {y : Except Nat (List FT × Ps)} : ∀ l st, y = .ok (l, st) → l = lOf y := fun l st e => by rw [e]; rfl
theorem one_post {W w' : World} {p d : Nat} {s : ByteArray} {q : Except Nat Ps} {r : Pr FT} {e : Ending} (h : DnQ W p s (bnd q r) (FV p d W) XF e w') : ∃ (x : FT) (ko : Option Addr) (kc : Nat), e = .returned (.agg #[.string x.name, .bool x.nul, .int .i64 x.kind, .int .i64 x.width, .int .i64 x.id, .int .i64 x.index, .slice ko x.kids.length kc]) ∧ KpN W w' p ∧ DS w' p s (qs (bnd q (oneP r))) ∧ RS p W (w'.alloc (.cells #[Value.string x.name, .bool x.nul, .int .i64 x.kind, .int .i64 x.width, .int .i64 x.id, .int .i64 x.index, .slice ko x.kids.length kc] 37)) (d + 1) (some ⟨w'.heap.size, 0, none⟩) 1 1 (bnd q (oneP r)) := by
  obtain ⟨x, ko, kc, rfl, hk, hD, hx⟩ := fld_post2 h
  refine ⟨x, ko, kc, rfl, hk, ?_, fun l st e => ?_⟩
  · cases q with
    | error o => exact hD
    | ok s0 =>
      cases e2 : r s0 with
      | error o => simpa [bnd, oneP, Pr.bind, e2, qs] using hD
      | ok y => simpa [bnd, oneP, Pr.bind, e2, qs, Pr.pure] using hD
  cases q with
  | error o => cases e
  | ok s0 =>
    obtain ⟨f, s1, e1, e2⟩ := Pr.inv (show (r.bind fun f => Pr.pure [f]) s0 = .ok (l, st) from e)
    obtain ⟨rfl, hkc, hr⟩ := hx f s1 e1
    cases e2
    have hrow := (FL.one hk.size hkc hr).rowAt (by simp [big])
    exact ⟨rfl, hrow.1, hrow.2⟩
theorem inner_end {W U w' : World} {p b c : Nat} {s : ByteArray} {y : Except Nat (Unit × Ps)} {R : Except Nat (TP × Ps)} {t : TP} {k x1 y1 z1 : Int} {ko : Option Addr} {kn kc D : Nat} (hI : IS W U p s b c (qs y) k x1 y1 z1 (.slice ko kn kc)) (hR : R = bp y fun _ => Pr.pure t) (h3 : t.width = x1 ∧ t.id = y1 ∧ t.index = z1)
    (hrow : ∀ u st, y = .ok (u, st) → kn = t.kids.length ∧ t.kids.length ≤ kc ∧ RowAt (NB p W w') w' D ko t.kids) (k3 : Keeps U w' (fun z => z = b)) :
    DnQ W p s R (fun w' t v => TV p D W w' (k, t) v) XT (.returned (.agg #[.int .i64 k, .int .i64 x1, .int .i64 y1, .int .i64 z1, .slice ko kn kc])) w' := by
  have kW : KpN W w' p := hI.kp.trans k3 fun z hz h => by have := hI.tb.lt; omega
  have hD := hI.ds.kept k3 fun z e => by rw [e]; exact ⟨hI.tb.bok.1, hI.tb.bok.2.2⟩
  obtain ⟨rfl, rfl, rfl⟩ := h3
  cases y with
  | error o => exact DnQ.err kW (hR.trans (bp_err rfl)) ⟨_, _, _, _, _, _, _, rfl⟩ hD
  | ok z =>
    obtain ⟨rfl, h2, h3⟩ := hrow z.1 z.2 rfl
    exact DnQ.ok kW (hR.trans (bp_ok rfl)) ⟨ko, kc, rfl, h2, h3⟩ hD
end Go.Proofs.YtkodgneneiledaaGreatDoor.Kit
