import Derived.Test.YtkodgneneiledaaGreatDoorYC
import Derived.Test.YtkodgneneiledaaGreatDoorUQ
set_option maxRecDepth 100000
set_option maxHeartbeats 4000000
namespace Go.Proofs.YtkodgneneiledaaGreatDoor.Kit
open Go.RowKit Go.Shelf Go.Deep
set_option linter.unusedVariables false
attribute [local go_sem] run_store_func
def Sm (s : ByteArray) (a c : Nat) : Prop := a + skN (s.data.toList.drop a) = c + skN (s.data.toList.drop c)
structure DAt (W : World) (p : Nat) (s : ByteArray) (a : Nat) (g : List Nat) (vo : Option Addr) (vc : Nat) : Prop where
  box : W.heap[p]? = some (.cells #[.string s, .int .i64 (a : Int), .int .i64 (-1), .slice vo g.length vc] 62 (0, 0))
  len : s.size ≤ 65536
  pos : a ≤ s.size
  own : W.ownsRow 0 3 1 (.slice vo g.length vc) g.length (ints g)
  new : ∀ q, (Value.slice vo g.length vc).ownBlock = some q → p < q
  pz : p ≠ 0
def DA (W : World) (p : Nat) (s : ByteArray) (c : Nat) (g : List Nat) : Prop := ∃ a vo vc, DAt W p s a g vo vc ∧ Sm s a c ∧ g.length ≤ c ∧ c ≤ s.size
def DD (W : World) (p : Nat) (s : ByteArray) (o : Nat) : Prop := ∃ (a : Nat) (n : Value), W.heap[p]? = some (.cells #[.string s, .int .i64 (a : Int), .int .i64 (o : Int), n] 62 (0, 0)) ∧ s.size ≤ 65536 ∧ a ≤ s.size ∧ p ≠ 0
theorem DA.lt {W : World} {p : Nat} {s : ByteArray} {a : Nat} {g : List Nat} (h : DA W p s a g) : p < W.heap.size := by obtain ⟨_, _, _, h, _⟩ := h; exact lt_of_heap h.box
theorem DA.pos {W : World} {p : Nat} {s : ByteArray} {a : Nat} {g : List Nat} (h : DA W p s a g) : a ≤ s.size := by obtain ⟨_, _, _, _, _, _, h⟩ := h; exact h
theorem DA.len {W : World} {p : Nat} {s : ByteArray} {a : Nat} {g : List Nat} (h : DA W p s a g) : s.size ≤ 65536 := by obtain ⟨_, _, _, h, _⟩ := h; exact h.len
theorem DD.lt {W : World} {p : Nat} {s : ByteArray} {o : Nat} (h : DD W p s o) : p < W.heap.size := by obtain ⟨_, _, h, _⟩ := h; exact lt_of_heap h
theorem DAt.kept {W U : World} {p : Nat} {s : ByteArray} {a : Nat} {g : List Nat} {vo : Option Addr} {vc : Nat} {S : Nat → Prop} (h : DAt W p s a g vo vc) (k : Keeps W U S) (hS : ∀ z, S z → z ≠ p ∧ ¬ IntsB p W z) : DAt U p s a g vo vc := by
  refine ⟨(k.block p (lt_of_heap h.box) fun e => (hS p e).1 rfl).trans h.box, h.len, h.pos, row_kp h.own fun q e => k.block q (own_lt h.own q e) fun e' => ?_, h.new, h.pz⟩
  obtain ⟨cs, hb⟩ := own_blk h.own e
  exact (hS q e').2 ⟨h.new q e, cs, _, hb⟩
theorem DAt.gr {W U : World} {p : Nat} {s : ByteArray} {a : Nat} {g : List Nat} {vo : Option Addr} {vc : Nat} (h : DAt W p s a g vo vc) (k : Gr W U) : DAt U p s a g vo vc := h.kept k fun _ e => e.elim
theorem DA.kept {W U : World} {p : Nat} {s : ByteArray} {a : Nat} {g : List Nat} {S : Nat → Prop} (h : DA W p s a g) (k : Keeps W U S) (hS : ∀ z, S z → z ≠ p ∧ ¬ IntsB p W z) : DA U p s a g := by
  obtain ⟨a', vo, vc, h, r⟩ := h; exact ⟨a', vo, vc, h.kept k hS, r⟩
theorem DA.gr {W U : World} {p : Nat} {s : ByteArray} {a : Nat} {g : List Nat} (h : DA W p s a g) (k : Gr W U) : DA U p s a g := h.kept k fun _ e => e.elim
theorem DD.kept {W U : World} {p : Nat} {s : ByteArray} {o : Nat} {S : Nat → Prop} (h : DD W p s o) (k : Keeps W U S) (hS : ∀ z, S z → z ≠ p) : DD U p s o := by
  obtain ⟨a, n, h, r⟩ := h; exact ⟨a, n, (k.block p (lt_of_heap h) fun e => hS p e rfl).trans h, r⟩
theorem DD.gr {W U : World} {p : Nat} {s : ByteArray} {o : Nat} (h : DD W p s o) (k : Gr W U) : DD U p s o := h.kept k fun _ e => e.elim
theorem sm_step {s : ByteArray} {a c : Nat} (h : Sm s a c) : Sm s a (c + skN (s.data.toList.drop c)) := by
  unfold Sm at *
  rw [h, drop_sk]
  generalize s.data.toList.drop c = l
  have : skN (sk l) = 0 := by
    have h1 := congrArg List.length (drop_skN (sk l))
    rw [sk_sk, List.length_drop] at h1
    have h2 : skN (sk l) ≤ (sk l).length := (List.takeWhile_prefix _).length_le
    omega
  omega
theorem DAt.move {W : World} {p : Nat} {s : ByteArray} {a a' : Nat} {g : List Nat} {vo : Option Addr} {vc : Nat} (h : DAt W p s a g vo vc) (ha : a' ≤ s.size) : DAt (W.setCell ⟨p, 1, none⟩ (.int .i64 (a' : Int))) p s a' g vo vc := by
  refine ⟨by rw [heap_setCell_same W p 1 _ _ _ h.box]; simp, h.len, ha, row_kp h.own fun q e => set_other _ (fun e' => ?_), h.new, h.pz⟩
  exact own_apart h.own h.box (by decide) (e' ▸ e)
theorem DAt.die {W : World} {p : Nat} {s : ByteArray} {a o : Nat} {g : List Nat} {vo : Option Addr} {vc : Nat} (h : DAt W p s a g vo vc) : DD (W.setCell ⟨p, 2, none⟩ (.int .i64 (o : Int))) p s o :=
  ⟨a, .slice vo g.length vc, by rw [heap_setCell_same W p 2 _ _ _ h.box]; simp, h.len, h.pos, h.pz⟩
theorem kpn_set {W U : World} {p i : Nat} {v : Value} (k : Gr W U) : KpN W (U.setCell ⟨p, i, none⟩ v) p := (k.n p).setCell (p := ⟨p, i, none⟩) (fun _ => .inl rfl) v
def DnQ {α : Type} (W : World) (p : Nat) (s : ByteArray) (r : Except Nat (α × Ps)) (V : World → α → Value → Prop) (X : Value → Prop) (e : Ending) (w' : World) : Prop :=
  KpN W w' p ∧
  match r with
  | .ok (x, a', g') => ∃ v, e = .returned v ∧ V w' x v ∧ DA w' p s a' g'
  | .error o => ∃ v, e = .returned v ∧ X v ∧ DD w' p s o
def DnC {α : Type} (p : Nat) (s : ByteArray) (d : Nat) (F : Nat) (args : Array Value) (r : Pr α) (V : World → World → α → Value → Prop) (X : Value → Prop) : Prop :=
  ∀ W a g, DA W p s a g → s.size - a < d → Calls Tryz.prog F args W (DnQ W p s (r (a, g)) (V W) X)
def DeQ (W : World) (p : Nat) (s : ByteArray) (o : Nat) (X : Value → Prop) (e : Ending) (w' : World) : Prop := KpN W w' p ∧ (∃ v, e = .returned v ∧ X v) ∧ DD w' p s o
def DeC (p : Nat) (s : ByteArray) (F : Nat) (args : Array Value) (X : Value → Prop) : Prop := ∀ W o, DD W p s o → Calls Tryz.prog F args W (DeQ W p s o X)
theorem DnQ.ok {α : Type} {W w' : World} {p : Nat} {s : ByteArray} {r : Except Nat (α × Ps)} {V : World → α → Value → Prop} {X : Value → Prop} {x : α} {a : Nat} {g : List Nat} {v : Value} (hk : KpN W w' p) (hr : r = .ok (x, (a, g))) (hv : V w' x v) (hR : DA w' p s a g) : DnQ W p s r V X (.returned v) w' := ⟨hk, by rw [hr]; exact ⟨v, rfl, hv, hR⟩⟩
theorem DnQ.err {α : Type} {W w' : World} {p : Nat} {s : ByteArray} {r : Except Nat (α × Ps)} {V : World → α → Value → Prop} {X : Value → Prop} {o : Nat} {v : Value} (hk : KpN W w' p) (hr : r = .error o) (hv : X v) (hR : DD w' p s o) : DnQ W p s r V X (.returned v) w' := ⟨hk, by rw [hr]; exact ⟨v, rfl, hv, hR⟩⟩
theorem DeQ.mk' {W w' : World} {p : Nat} {s : ByteArray} {o : Nat} {X : Value → Prop} {v : Value} (hk : KpN W w' p) (hv : X v) (hR : DD w' p s o) : DeQ W p s o X (.returned v) w' := ⟨hk, ⟨v, rfl, hv⟩, hR⟩
abbrev signB (c : UInt8) : Prop := c = 40 ∨ c = 41 ∨ c = 44 ∨ c = 63 ∨ c = 124
theorem sign_word {c : UInt8} (h : signB c) : wordB c.toNat = false := by rcases h with rfl | rfl | rfl | rfl | rfl <;> decide
theorem sign_ne {c : UInt8} (h : signB c) : c ≠ 0 := by rcases h with rfl | rfl | rfl | rfl | rfl <;> decide
theorem head_cons {l : List UInt8} {c : UInt8} (h : l.headD 0 = c) (hc : c ≠ 0) : ∃ m, l = c :: m := by
  cases l with
  | nil => exact absurd h.symm hc
  | cons x m => exact ⟨m, by rw [show x = c from h]⟩
theorem tok_sign {T : List UInt8} {b : Nat} {c : UInt8} (hc : signB c) (h : (T.drop b).headD 0 = c) : tokOf T b = (2, ⟨#[c]⟩, b + 1, -1) := by
  obtain ⟨m, e⟩ := head_cons h (sign_ne hc)
  unfold tokOf
  rw [e]
  dsimp only
  rw [if_neg (by rw [sign_word hc]; decide), if_pos hc]
theorem tok_fld (tk : Int) (tx : ByteArray) (b tn : Nat) (tf : Int) (w : World) : (Instr.field 64 (.agg #[.int .i64 tk, .string tx, .int .i64 (b : Int), .int .i64 (tn : Int), .int .i64 tf]) 2).run Tryz.prog w = .ok (.int .i64 (b : Int)) w := by kernel_rfl
theorem tok_nosign {T : List UInt8} {b : Nat} {c : UInt8} (h : (T.drop b).headD 0 ≠ c) (h2 : (tokOf T b).1 = 2) : (tokOf T b).2.1 ≠ ⟨#[c]⟩ := by
  unfold tokOf at *
  cases hd : T.drop b with
  | nil => rw [hd] at h2; exact absurd h2 (by show ¬ ((0 : Int) = 2); decide)
  | cons x m =>
    rw [hd] at h2 h
    dsimp only at h2 ⊢
    split at h2
    · exact absurd h2 (by show ¬ ((1 : Int) = 2); decide)
    rename_i hw
    rw [if_neg hw]
    split at h2
    · rename_i hs
      rw [if_pos hs]
      intro e
      have : x = c := by have := congrArg (fun z : ByteArray => z.data.toList) e; simpa using this
      exact h this
    split at h2
    · split at h2 <;> exact absurd h2 (by show ¬ ((3 : Int) = 2); decide)
    exact absurd h2 (by show ¬ ((4 : Int) = 2); decide)
theorem tok_end0 {s : ByteArray} {b : Nat} (hb : b ≤ s.size) : (tokOf s.data.toList b).1 = 0 ↔ b = s.size := by
  constructor
  · intro h
    by_cases hlt : b < s.size
    · unfold tokOf at h
      rw [drop_at hlt] at h
      dsimp only at h
      split at h
      · exact absurd h (by show ¬ ((1 : Int) = 0); decide)
      split at h
      · exact absurd h (by show ¬ ((2 : Int) = 0); decide)
      split at h
      · split at h <;> exact absurd h (by show ¬ ((3 : Int) = 0); decide)
      exact absurd h (by show ¬ ((4 : Int) = 0); decide)
    omega
  rintro rfl
  unfold tokOf
  rw [drop_end]
theorem str_one {x : ByteArray} {c : UInt8} : ((x.toList == [c]) = true) ↔ x = ⟨#[c]⟩ := by
  rw [beq_iff_eq, ByteArray.toList_eq]
  constructor
  · intro h; apply ByteArray.ext; apply Array.toList_inj.1; exact h
  rintro rfl; rfl
def cOf (w : World) (b i : Nat) : Value := (w.cell? ⟨b, i, none⟩).getD undef
structure SeeI (W w' : World) (b p : Nat) (s : ByteArray) (a : Nat) : Prop where
  gr : Gr W w'
  bb : ∃ x0 x1 x2 x3 x4, w'.heap[b]? = some (.cells #[x0, x1, x2, x3, x4] 64 (0, 0))
  ne : p < b ∧ b = W.heap.size
  rb : ∃ f n, w'.heap[p]? = some (.cells #[.string s, .int .i64 (a : Int), f, n] 62 (0, 0))
theorem SeeI.cells {W w' : World} {b p : Nat} {s : ByteArray} {a : Nat} (h : SeeI W w' b p s a) : w'.cell? ⟨p, 0, none⟩ = some (.string s) ∧ w'.cell? ⟨p, 1, none⟩ = some (.int .i64 (a : Int)) ∧ w'.cell? ⟨b, 0, none⟩ = some (cOf w' b 0) ∧ w'.cell? ⟨b, 1, none⟩ = some (cOf w' b 1) ∧ w'.cell? ⟨b, 2, none⟩ = some (cOf w' b 2) ∧ w'.cell? ⟨b, 3, none⟩ = some (cOf w' b 3) ∧ w'.cell? ⟨b, 4, none⟩ = some (cOf w' b 4) ∧ w'.frozen? ⟨b, 0, none⟩ = false ∧ w'.frozen? ⟨b, 1, none⟩ = false ∧ w'.frozen? ⟨b, 2, none⟩ = false ∧ w'.frozen? ⟨b, 3, none⟩ = false ∧ w'.frozen? ⟨b, 4, none⟩ = false := by
  obtain ⟨f, n, e⟩ := h.rb; obtain ⟨x0, x1, x2, x3, x4, e2⟩ := h.bb; simp [cOf, World.cell?, World.frozen?, e, e2]
theorem see_kept {W w1 w2 : World} {b p : Nat} {s : ByteArray} {a : Nat} (h : Hid (SeeI W w1 b p s a) ∧ w1.cell? ⟨p, 0, none⟩ = some (.string s) ∧ w1.cell? ⟨p, 1, none⟩ = some (.int .i64 (a : Int)) ∧ w1.cell? ⟨b, 0, none⟩ = some (cOf w1 b 0) ∧ w1.cell? ⟨b, 1, none⟩ = some (cOf w1 b 1) ∧ w1.cell? ⟨b, 2, none⟩ = some (cOf w1 b 2) ∧ w1.cell? ⟨b, 3, none⟩ = some (cOf w1 b 3) ∧ w1.cell? ⟨b, 4, none⟩ = some (cOf w1 b 4) ∧ w1.frozen? ⟨b, 0, none⟩ = false ∧ w1.frozen? ⟨b, 1, none⟩ = false ∧ w1.frozen? ⟨b, 2, none⟩ = false ∧ w1.frozen? ⟨b, 3, none⟩ = false ∧ w1.frozen? ⟨b, 4, none⟩ = false) (k : Hid (Gr w1 w2)) : Hid (SeeI W w2 b p s a) ∧ w2.cell? ⟨p, 0, none⟩ = some (.string s) ∧ w2.cell? ⟨p, 1, none⟩ = some (.int .i64 (a : Int)) ∧ w2.cell? ⟨b, 0, none⟩ = some (cOf w2 b 0) ∧ w2.cell? ⟨b, 1, none⟩ = some (cOf w2 b 1) ∧ w2.cell? ⟨b, 2, none⟩ = some (cOf w2 b 2) ∧ w2.cell? ⟨b, 3, none⟩ = some (cOf w2 b 3) ∧ w2.cell? ⟨b, 4, none⟩ = some (cOf w2 b 4) ∧ w2.frozen? ⟨b, 0, none⟩ = false ∧ w2.frozen? ⟨b, 1, none⟩ = false ∧ w2.frozen? ⟨b, 2, none⟩ = false ∧ w2.frozen? ⟨b, 3, none⟩ = false ∧ w2.frozen? ⟨b, 4, none⟩ = false := by
  have h2 : SeeI W w2 b p s a := ⟨h.1.out.gr.trans k.out fun _ _ h => h, by obtain ⟨x0, x1, x2, x3, x4, e⟩ := h.1.out.bb; exact ⟨x0, x1, x2, x3, x4, (k.out.block b (lt_of_heap e) id).trans e⟩, h.1.out.ne, by obtain ⟨f, n, e⟩ := h.1.out.rb; exact ⟨f, n, (k.out.block p (lt_of_heap e) id).trans e⟩⟩
  exact ⟨h2, h2.cells⟩
theorem see_put {W w1 : World} {b p : Nat} {s : ByteArray} {a : Nat} {y0 y1 y2 y3 y4 : Value} (h : Hid (SeeI W w1 b p s a) ∧ w1.cell? ⟨p, 0, none⟩ = some (.string s) ∧ w1.cell? ⟨p, 1, none⟩ = some (.int .i64 (a : Int)) ∧ w1.cell? ⟨b, 0, none⟩ = some (cOf w1 b 0) ∧ w1.cell? ⟨b, 1, none⟩ = some (cOf w1 b 1) ∧ w1.cell? ⟨b, 2, none⟩ = some (cOf w1 b 2) ∧ w1.cell? ⟨b, 3, none⟩ = some (cOf w1 b 3) ∧ w1.cell? ⟨b, 4, none⟩ = some (cOf w1 b 4) ∧ w1.frozen? ⟨b, 0, none⟩ = false ∧ w1.frozen? ⟨b, 1, none⟩ = false ∧ w1.frozen? ⟨b, 2, none⟩ = false ∧ w1.frozen? ⟨b, 3, none⟩ = false ∧ w1.frozen? ⟨b, 4, none⟩ = false) : Hid (SeeI W (((((w1.setCell ⟨b, 0, none⟩ (y0)).setCell ⟨b, 1, none⟩ (y1)).setCell ⟨b, 2, none⟩ (y2)).setCell ⟨b, 3, none⟩ (y3)).setCell ⟨b, 4, none⟩ (y4)) b p s a) ∧ (((((w1.setCell ⟨b, 0, none⟩ (y0)).setCell ⟨b, 1, none⟩ (y1)).setCell ⟨b, 2, none⟩ (y2)).setCell ⟨b, 3, none⟩ (y3)).setCell ⟨b, 4, none⟩ (y4)).cell? ⟨p, 0, none⟩ = some (.string s) ∧ (((((w1.setCell ⟨b, 0, none⟩ (y0)).setCell ⟨b, 1, none⟩ (y1)).setCell ⟨b, 2, none⟩ (y2)).setCell ⟨b, 3, none⟩ (y3)).setCell ⟨b, 4, none⟩ (y4)).cell? ⟨p, 1, none⟩ = some (.int .i64 (a : Int)) ∧ (((((w1.setCell ⟨b, 0, none⟩ (y0)).setCell ⟨b, 1, none⟩ (y1)).setCell ⟨b, 2, none⟩ (y2)).setCell ⟨b, 3, none⟩ (y3)).setCell ⟨b, 4, none⟩ (y4)).cell? ⟨b, 0, none⟩ = some (cOf (((((w1.setCell ⟨b, 0, none⟩ (y0)).setCell ⟨b, 1, none⟩ (y1)).setCell ⟨b, 2, none⟩ (y2)).setCell ⟨b, 3, none⟩ (y3)).setCell ⟨b, 4, none⟩ (y4)) b 0) ∧ (((((w1.setCell ⟨b, 0, none⟩ (y0)).setCell ⟨b, 1, none⟩ (y1)).setCell ⟨b, 2, none⟩ (y2)).setCell ⟨b, 3, none⟩ (y3)).setCell ⟨b, 4, none⟩ (y4)).cell? ⟨b, 1, none⟩ = some (cOf (((((w1.setCell ⟨b, 0, none⟩ (y0)).setCell ⟨b, 1, none⟩ (y1)).setCell ⟨b, 2, none⟩ (y2)).setCell ⟨b, 3, none⟩ (y3)).setCell ⟨b, 4, none⟩ (y4)) b 1) ∧ (((((w1.setCell ⟨b, 0, none⟩ (y0)).setCell ⟨b, 1, none⟩ (y1)).setCell ⟨b, 2, none⟩ (y2)).setCell ⟨b, 3, none⟩ (y3)).setCell ⟨b, 4, none⟩ (y4)).cell? ⟨b, 2, none⟩ = some (cOf (((((w1.setCell ⟨b, 0, none⟩ (y0)).setCell ⟨b, 1, none⟩ (y1)).setCell ⟨b, 2, none⟩ (y2)).setCell ⟨b, 3, none⟩ (y3)).setCell ⟨b, 4, none⟩ (y4)) b 2) ∧ (((((w1.setCell ⟨b, 0, none⟩ (y0)).setCell ⟨b, 1, none⟩ (y1)).setCell ⟨b, 2, none⟩ (y2)).setCell ⟨b, 3, none⟩ (y3)).setCell ⟨b, 4, none⟩ (y4)).cell? ⟨b, 3, none⟩ = some (cOf (((((w1.setCell ⟨b, 0, none⟩ (y0)).setCell ⟨b, 1, none⟩ (y1)).setCell ⟨b, 2, none⟩ (y2)).setCell ⟨b, 3, none⟩ (y3)).setCell ⟨b, 4, none⟩ (y4)) b 3) ∧ (((((w1.setCell ⟨b, 0, none⟩ (y0)).setCell ⟨b, 1, none⟩ (y1)).setCell ⟨b, 2, none⟩ (y2)).setCell ⟨b, 3, none⟩ (y3)).setCell ⟨b, 4, none⟩ (y4)).cell? ⟨b, 4, none⟩ = some (cOf (((((w1.setCell ⟨b, 0, none⟩ (y0)).setCell ⟨b, 1, none⟩ (y1)).setCell ⟨b, 2, none⟩ (y2)).setCell ⟨b, 3, none⟩ (y3)).setCell ⟨b, 4, none⟩ (y4)) b 4) ∧ (((((w1.setCell ⟨b, 0, none⟩ (y0)).setCell ⟨b, 1, none⟩ (y1)).setCell ⟨b, 2, none⟩ (y2)).setCell ⟨b, 3, none⟩ (y3)).setCell ⟨b, 4, none⟩ (y4)).frozen? ⟨b, 0, none⟩ = false ∧ (((((w1.setCell ⟨b, 0, none⟩ (y0)).setCell ⟨b, 1, none⟩ (y1)).setCell ⟨b, 2, none⟩ (y2)).setCell ⟨b, 3, none⟩ (y3)).setCell ⟨b, 4, none⟩ (y4)).frozen? ⟨b, 1, none⟩ = false ∧ (((((w1.setCell ⟨b, 0, none⟩ (y0)).setCell ⟨b, 1, none⟩ (y1)).setCell ⟨b, 2, none⟩ (y2)).setCell ⟨b, 3, none⟩ (y3)).setCell ⟨b, 4, none⟩ (y4)).frozen? ⟨b, 2, none⟩ = false ∧ (((((w1.setCell ⟨b, 0, none⟩ (y0)).setCell ⟨b, 1, none⟩ (y1)).setCell ⟨b, 2, none⟩ (y2)).setCell ⟨b, 3, none⟩ (y3)).setCell ⟨b, 4, none⟩ (y4)).frozen? ⟨b, 3, none⟩ = false ∧ (((((w1.setCell ⟨b, 0, none⟩ (y0)).setCell ⟨b, 1, none⟩ (y1)).setCell ⟨b, 2, none⟩ (y2)).setCell ⟨b, 3, none⟩ (y3)).setCell ⟨b, 4, none⟩ (y4)).frozen? ⟨b, 4, none⟩ = false := by
  have h2 : SeeI W (((((w1.setCell ⟨b, 0, none⟩ (y0)).setCell ⟨b, 1, none⟩ (y1)).setCell ⟨b, 2, none⟩ (y2)).setCell ⟨b, 3, none⟩ (y3)).setCell ⟨b, 4, none⟩ (y4)) b p s a := by
    obtain ⟨x0, x1, x2, x3, x4, e⟩ := h.1.out.bb
    have n1 := h.1.out.ne
    obtain ⟨f, n, e3⟩ := h.1.out.rb
    exact ⟨h.1.out.gr.trans (put5_keeps w1 b y0 y1 y2 y3 y4) fun z hz h => by omega, ⟨_, _, _, _, _, put5_box y0 y1 y2 y3 y4 e⟩, n1, f, n, ((put5_keeps w1 b y0 y1 y2 y3 y4).block p (lt_of_heap e3) fun h => by omega).trans e3⟩
  exact ⟨h2, h2.cells⟩
theorem see24 (p : Nat) (s : ByteArray) (a : Nat) (f n : Value) (W : World) (h : W.heap[p]? = some (.cells #[.string s, .int .i64 (a : Int), f, n] 62 (0, 0))) (ha : a ≤ s.size) (hs : s.size ≤ 65536) : Calls Tryz.prog 24 #[.pointer (some ⟨p, 0, none⟩)] W (fun e w' => Gr W w' ∧ e = .returned (tokV s.data.toList (a + skN (s.data.toList.drop a)))) := by
  unfold tokV
  have c0 : W.cell? ⟨p, 0, none⟩ = some (.string s) := by simp [World.cell?, h]
  have c1 : W.cell? ⟨p, 1, none⟩ = some (.int .i64 (a : Int)) := by simp [World.cell?, h]
  have HQ := hidP (fun U => read54 s a ha hs U)
  have hp : p < W.heap.size := lt_of_heap h
  obtain ⟨V, hV⟩ : ∃ V, W.alloc (.cells #[.int .i64 0, .string ⟨#[]⟩, .int .i64 0, .int .i64 0, .int .i64 0] 64) = V := ⟨_, rfl⟩
  have HG := hidP (gr_alloc W (.cells #[.int .i64 0, .string ⟨#[]⟩, .int .i64 0, .int .i64 0, .int .i64 0] 64))
  have HB := hidP (heap_alloc_new W (.cells #[.int .i64 0, .string ⟨#[]⟩, .int .i64 0, .int .i64 0, .int .i64 0] 64))
  rw [hV] at HG HB
  obtain ⟨b, hb⟩ : ∃ b, b = W.heap.size := ⟨_, rfl⟩
  rw [← hb] at HB
  have HS : Hid (SeeI W V.drew b p s a) := ⟨(HG.out.drew), ⟨_, _, _, _, _, HB.out⟩, ⟨by omega, hb⟩, ⟨f, n, (HG.out.block p hp id).trans h⟩⟩
  have HV := hidP hV
  have Hb := hidP hb
  clear hb hV h hp c0 c1 HG HB
  unfold tokV at HQ
  generalize (tokOf s.data.toList (a + skN (s.data.toList.drop a))).1 = tk at HQ ⊢
  generalize (tokOf s.data.toList (a + skN (s.data.toList.drop a))).2.1 = tx at HQ ⊢
  generalize (tokOf s.data.toList (a + skN (s.data.toList.drop a))).2.2.1 = tn at HQ ⊢
  generalize (tokOf s.data.toList (a + skN (s.data.toList.drop a))).2.2.2 = tf at HQ ⊢
  generalize a + skN (s.data.toList.drop a) = q at HQ ⊢
  go_enter Tryz.func24, Tryz.ntmps24
  go_wp2_with fail
  rw [HV.out, ← Hb.out]
  clear HV
  go_region_held3 (fun w' => Hid (SeeI W w' b p s a) ∧ w'.cell? ⟨p, 0, none⟩ = some (.string s) ∧ w'.cell? ⟨p, 1, none⟩ = some (.int .i64 (a : Int)) ∧ w'.cell? ⟨b, 0, none⟩ = some (cOf w' b 0) ∧ w'.cell? ⟨b, 1, none⟩ = some (cOf w' b 1) ∧ w'.cell? ⟨b, 2, none⟩ = some (cOf w' b 2) ∧ w'.cell? ⟨b, 3, none⟩ = some (cOf w' b 3) ∧ w'.cell? ⟨b, 4, none⟩ = some (cOf w' b 4) ∧ w'.frozen? ⟨b, 0, none⟩ = false ∧ w'.frozen? ⟨b, 1, none⟩ = false ∧ w'.frozen? ⟨b, 2, none⟩ = false ∧ w'.frozen? ⟨b, 3, none⟩ = false ∧ w'.frozen? ⟨b, 4, none⟩ = false) (first | with_reducible exact ⟨HS, HS.out.cells⟩ | with_reducible assumption | with_reducible exact see_kept (by assumption) hk1 | exact see_put (by assumption)) (first | (go_at_call 54; refine Calls.mono (HQ.out _) ?_; rintro e v1 ⟨hk1, rfl⟩; replace hk1 := hidP hk1))
  rename_i hHeld
  obtain ⟨x0, x1, x2, x3, x4, e⟩ := HS.out.bb
  have HB1 := hidP (put5_box (.int .i64 tk) (.string tx) (.int .i64 (q : Int)) (.int .i64 (tn : Int)) (.int .i64 tf) ((hk1.out.block b (lt_of_heap e) id).trans e))
  have HG1 := hidP hHeld.1.out.gr
  clear hHeld e HS hk1
  go_wp2_with fail
  exact bodyPost_ret (results_cell64 rfl rfl HB1.out (by kernel_rfl)) rfl ⟨HG1.out, rfl⟩
theorem wrong55 (p : Nat) (s : ByteArray) (W : World) (c : Nat) (g : List Nat) (hN : DA W p s c g) : Calls Tryz.prog 55 #[.pointer (some ⟨p, 0, none⟩)] W (fun e w' => KpN W w' p ∧ e = .returned (.tuple #[]) ∧ DD w' p s (c + skN (s.data.toList.drop c))) := by
  obtain ⟨a, vo, vc, hA, hsm, hgc, hcs⟩ := hN
  have HSee := hidP (see24 p s a _ _ W hA.box hA.pos hA.len)
  unfold tokV at HSee
  rw [show a + skN (s.data.toList.drop a) = c + skN (s.data.toList.drop c) from hsm] at HSee
  have HA := hidP hA
  generalize c + skN (s.data.toList.drop c) = b at HSee ⊢
  rcases hTok : tokOf s.data.toList b with ⟨tk, tx, tn, tf⟩
  rw [hTok] at HSee
  (try dsimp only at HSee)
  clear hTok
  have d0 : W.cell? ⟨p, 0, none⟩ = some (.string s) := by simp [World.cell?, hA.box]
  have d1 : W.cell? ⟨p, 1, none⟩ = some (.int .i64 (a : Int)) := by simp [World.cell?, hA.box]
  have d2 : W.cell? ⟨p, 2, none⟩ = some (.int .i64 (-1)) := by simp [World.cell?, hA.box]
  have d3 : W.cell? ⟨p, 3, none⟩ = some (.slice vo g.length vc) := by simp [World.cell?, hA.box]
  have z1 : W.frozen? ⟨p, 1, none⟩ = false := frz hA.box 1
  have z2 : W.frozen? ⟨p, 2, none⟩ = false := frz hA.box 2
  have z3 : W.frozen? ⟨p, 3, none⟩ = false := frz hA.box 3
  have hfl := tok_fld tk tx b tn tf
  clear hA hsm hgc hcs
  go_enter Tryz.func55, Tryz.ntmps55
  go_wp2_with (go_at_call 24; refine Calls.mono HSee.out ?_; rintro e u ⟨hgu, rfl⟩; have HGu := hidP hgu; have HAu := hidP (HA.out.gr hgu); clear hgu; have c2 : u.cell? ⟨p, 2, none⟩ = some (.int .i64 (-1)) := (by simp [World.cell?, HAu.out.box]); have y2 : u.frozen? ⟨p, 2, none⟩ = false := frz HAu.out.box 2)
  go_end0
  exact ⟨kpn_set HGu.out, rfl, HAu.out.die⟩
theorem wrong55_dead (p : Nat) (s : ByteArray) : DeC p s 55 #[.pointer (some ⟨p, 0, none⟩)] (fun v => v = .tuple #[]) := by
  intro W o hD
  have HD := hidP hD
  obtain ⟨a, n, hX, hs, ha, hpz⟩ := hD
  have d0 : W.cell? ⟨p, 0, none⟩ = some (.string s) := by simp [World.cell?, hX]
  have d1 : W.cell? ⟨p, 1, none⟩ = some (.int .i64 (a : Int)) := by simp [World.cell?, hX]
  have d2 : W.cell? ⟨p, 2, none⟩ = some (.int .i64 (o : Int)) := by simp [World.cell?, hX]
  have d3 : W.cell? ⟨p, 3, none⟩ = some (n) := by simp [World.cell?, hX]
  have z1 : W.frozen? ⟨p, 1, none⟩ = false := frz hX 1
  have z2 : W.frozen? ⟨p, 2, none⟩ = false := frz hX 2
  have z3 : W.frozen? ⟨p, 3, none⟩ = false := frz hX 3
  have ho : ¬ (o : Int) < 0 := by omega
  clear hX
  go_enter Tryz.func55, Tryz.ntmps55
  go_wp2_with fail
  go_end0
  exact DeQ.mk' (Keeps.refl _ _) rfl HD.out
theorem sign26 (p : Nat) (s : ByteArray) (d : Nat) (ch : UInt8) (hch : signB ch) (X : Value → Prop) : DnC p s d 26 #[.pointer (some ⟨p, 0, none⟩), .string ⟨#[ch]⟩] (takesP s.data.toList ch) (fun _ _ b v => v = .bool b) X := by
  intro W c g hN _
  obtain ⟨a, vo, vc, hA, hsm, hgc, hcs⟩ := hN
  have HSee := hidP (see24 p s a _ _ W hA.box hA.pos hA.len)
  unfold tokV at HSee
  rw [show a + skN (s.data.toList.drop a) = c + skN (s.data.toList.drop c) from hsm] at HSee
  have HA := hidP hA
  have hb := skN_le s hcs
  have hk0 : (s.data.toList.drop (c + skN (s.data.toList.drop c))).headD 0 = (sk (s.data.toList.drop c)).headD 0 := by rw [drop_sk]
  by_cases hh : (sk (s.data.toList.drop c)).headD 0 = ch
  · have HE := hidP (takes_yes g hh)
    have hlt := head_lt (sign_ne hch) hcs hh
    rw [tok_sign hch (hk0.trans hh)] at HSee
    (try dsimp only at HSee)
    rw [HE.out]
    have Hgc := hidP hgc
    clear HE hh hk0 hsm hgc hch
    have Hcb : Hid (c ≤ c + skN (s.data.toList.drop c)) := Nat.le_add_right _ _
    generalize c + skN (s.data.toList.drop c) = b at HSee Hcb hb hlt ⊢
    obtain ⟨tk, htk⟩ : ∃ tk : Int, tk = 2 := ⟨_, rfl⟩
    obtain ⟨tx, htx⟩ : ∃ tx : ByteArray, tx = ⟨#[ch]⟩ := ⟨_, rfl⟩
    obtain ⟨tf, htf⟩ : ∃ tf : Int, tf = -1 := ⟨_, rfl⟩
    obtain ⟨tn, htn⟩ : ∃ tn : Nat, tn = b + 1 := ⟨_, rfl⟩
    rw [← htk, ← htx, ← htf, ← htn] at HSee
    have Htn := hidP htn
    have Htx := hidP htx
    clear htf htn
    have he : (tx.toList == [ch]) = true := str_one.2 htx
    have hek : (tk == 2) = true := by rw [htk]; rfl
    clear htk htx hA
    go_enter Tryz.func26, Tryz.ntmps26
    go_wp2_with (first | (go_at_call 24; refine Calls.mono (HSee.out) ?_; rintro e u ⟨hgu, rfl⟩; have HGu := hidP hgu; clear hgu) | (with_reducible show wpList Tryz.prog _ _ (Oper.mk (some 11) _ _ _ _ _ :: _) _ _; refine Hid.out ?_))
    unfold Hid
    have hz1 := heap_alloc_new u (.cells #[.int .i64 tk, .string tx, .int .i64 (b : Int), .int .i64 (tn : Int), .int .i64 tf] 64)
    have hz2 := gr_alloc u (.cells #[.int .i64 tk, .string tx, .int .i64 (b : Int), .int .i64 (tn : Int), .int .i64 tf] 64)
    have hKW : Hid (W.heap.size ≤ u.heap.size) := HGu.out.size
    obtain ⟨K, hK⟩ : ∃ K, K = u.heap.size := ⟨_, rfl⟩
    rw [← hK] at hz1 hKW ⊢
    have HGU := hidP (HGu.out.trans hz2 fun _ _ h => h)
    have HKt := hidP hz1
    clear hz1 hz2 hK HGu
    generalize u.alloc (.cells #[.int .i64 tk, .string tx, .int .i64 (b : Int), .int .i64 (tn : Int), .int .i64 tf] 64) = U at HGU HKt ⊢
    have t0 : U.cell? ⟨K, 0, none⟩ = some (.int .i64 tk) := by simp [World.cell?, HKt.out]
    have t1 : U.cell? ⟨K, 1, none⟩ = some (.string tx) := by simp [World.cell?, HKt.out]
    have t2 : U.cell? ⟨K, 2, none⟩ = some (.int .i64 (b : Int)) := by simp [World.cell?, HKt.out]
    have t3 : U.cell? ⟨K, 3, none⟩ = some (.int .i64 (tn : Int)) := by simp [World.cell?, HKt.out]
    have t4 : U.cell? ⟨K, 4, none⟩ = some (.int .i64 tf) := by simp [World.cell?, HKt.out]
    have HAU := hidP (HA.out.gr HGU.out)
    have d0 : U.cell? ⟨p, 0, none⟩ = some (.string s) := by simp [World.cell?, HAU.out.box]
    have d1 : U.cell? ⟨p, 1, none⟩ = some (.int .i64 (a : Int)) := by simp [World.cell?, HAU.out.box]
    have d2 : U.cell? ⟨p, 2, none⟩ = some (.int .i64 (-1)) := by simp [World.cell?, HAU.out.box]
    have d3 : U.cell? ⟨p, 3, none⟩ = some (.slice vo g.length vc) := by simp [World.cell?, HAU.out.box]
    have z1 : U.frozen? ⟨p, 1, none⟩ = false := frz HAU.out.box 1
    have z2 : U.frozen? ⟨p, 2, none⟩ = false := frz HAU.out.box 2
    have z3 : U.frozen? ⟨p, 3, none⟩ = false := frz HAU.out.box 3
    have hpK : ¬ p = K := by have := hKW.out; have := lt_of_heap HA.out.box; omega
    go_wp2_with fail
    go_ret
    refine DnQ.ok (kpn_set HGU.out) rfl rfl ⟨tn, vo, vc, HAU.out.move (by have := Htn.out; omega), by rw [Htn.out]; rfl, by have := Hgc.out; have := Hcb.out; omega, by omega⟩
  have HE := hidP (takes_no g hh)
  have hns := tok_nosign (T := s.data.toList) (b := c + skN (s.data.toList.drop c)) (c := ch) (by rw [hk0]; exact hh)
  rw [HE.out]
  have Hsm := hidP (sm_step hsm)
  have Hgc := hidP hgc
  have Hcb : Hid (c ≤ c + skN (s.data.toList.drop c)) := Nat.le_add_right _ _
  clear HE hh hk0 hsm hgc hch
  generalize c + skN (s.data.toList.drop c) = b at HSee Hcb hb hns Hsm ⊢
  rcases hTok : tokOf s.data.toList b with ⟨tk, tx, tn, tf⟩
  rw [hTok] at HSee
  (try dsimp only at HSee)
  rw [hTok] at hns
  (try dsimp only at hns)
  clear hTok hA
  have he : tk = 2 → (tx.toList == [ch]) = false := fun h => Bool.eq_false_iff.2 fun h2 => hns h (str_one.1 h2)
  clear hns
  go_enter Tryz.func26, Tryz.ntmps26
  go_wp2_with (first | (go_at_call 24; refine Calls.mono (HSee.out) ?_; rintro e u ⟨hgu, rfl⟩; have HGu := hidP hgu; clear hgu) | (with_reducible show wpList Tryz.prog _ _ (Oper.mk (some 11) _ _ _ _ _ :: _) _ _; refine Hid.out ?_))
  unfold Hid
  have hz1 := heap_alloc_new u (.cells #[.int .i64 tk, .string tx, .int .i64 (b : Int), .int .i64 (tn : Int), .int .i64 tf] 64)
  have hz2 := gr_alloc u (.cells #[.int .i64 tk, .string tx, .int .i64 (b : Int), .int .i64 (tn : Int), .int .i64 tf] 64)
  have hKW : Hid (W.heap.size ≤ u.heap.size) := HGu.out.size
  obtain ⟨K, hK⟩ : ∃ K, K = u.heap.size := ⟨_, rfl⟩
  rw [← hK] at hz1 hKW ⊢
  have HGU := hidP (HGu.out.trans hz2 fun _ _ h => h)
  have HKt := hidP hz1
  clear hz1 hz2 hK HGu
  generalize u.alloc (.cells #[.int .i64 tk, .string tx, .int .i64 (b : Int), .int .i64 (tn : Int), .int .i64 tf] 64) = U at HGU HKt ⊢
  have t0 : U.cell? ⟨K, 0, none⟩ = some (.int .i64 tk) := by simp [World.cell?, HKt.out]
  have t1 : U.cell? ⟨K, 1, none⟩ = some (.string tx) := by simp [World.cell?, HKt.out]
  have t2 : U.cell? ⟨K, 2, none⟩ = some (.int .i64 (b : Int)) := by simp [World.cell?, HKt.out]
  have t3 : U.cell? ⟨K, 3, none⟩ = some (.int .i64 (tn : Int)) := by simp [World.cell?, HKt.out]
  have t4 : U.cell? ⟨K, 4, none⟩ = some (.int .i64 tf) := by simp [World.cell?, HKt.out]
  have HAU := hidP (HA.out.gr HGU.out)
  have d0 : U.cell? ⟨p, 0, none⟩ = some (.string s) := by simp [World.cell?, HAU.out.box]
  have d1 : U.cell? ⟨p, 1, none⟩ = some (.int .i64 (a : Int)) := by simp [World.cell?, HAU.out.box]
  have d2 : U.cell? ⟨p, 2, none⟩ = some (.int .i64 (-1)) := by simp [World.cell?, HAU.out.box]
  have d3 : U.cell? ⟨p, 3, none⟩ = some (.slice vo g.length vc) := by simp [World.cell?, HAU.out.box]
  have z1 : U.frozen? ⟨p, 1, none⟩ = false := frz HAU.out.box 1
  have z2 : U.frozen? ⟨p, 2, none⟩ = false := frz HAU.out.box 2
  have z3 : U.frozen? ⟨p, 3, none⟩ = false := frz HAU.out.box 3
  by_cases h2 : tk = 2
  · have hek : (tk == 2) = true := by rw [h2]; rfl
    have he := he h2
    clear h2
    go_wp2_with fail
    go_ret
    exact DnQ.ok (Gr.n p HGU.out) rfl rfl ⟨a, vo, vc, HAU.out, Hsm.out, by have := Hgc.out; have := Hcb.out; omega, hb⟩
  have hek : (tk == 2) = false := by exact beq_eq_false_iff_ne.2 h2
  clear he
  clear h2
  go_wp2_with fail
  go_ret
  exact DnQ.ok (Gr.n p HGU.out) rfl rfl ⟨a, vo, vc, HAU.out, Hsm.out, by have := Hgc.out; have := Hcb.out; omega, hb⟩
theorem sign26_dead (p : Nat) (s : ByteArray) (x : ByteArray) : DeC p s 26 #[.pointer (some ⟨p, 0, none⟩), .string x] (fun v => v = .bool false) := by
  intro W o hD
  obtain ⟨a, n, hX, hs, ha, hpz⟩ := hD
  have HSee := hidP (see24 p s a _ _ W hX ha hs)
  unfold tokV at HSee
  have HX := hidP hX
  have HD := hidP (show DD W p s o from ⟨a, n, hX, hs, ha, hpz⟩)
  generalize a + skN (s.data.toList.drop a) = b at HSee
  rcases hTok : tokOf s.data.toList b with ⟨tk, tx, tn, tf⟩
  rw [hTok] at HSee
  (try dsimp only at HSee)
  have ho : ¬ (o : Int) < 0 := by omega
  clear hTok hX
  go_enter Tryz.func26, Tryz.ntmps26
  go_wp2_with (first | (go_at_call 24; refine Calls.mono (HSee.out) ?_; rintro e u ⟨hgu, rfl⟩; have HGu := hidP hgu; clear hgu) | (with_reducible show wpList Tryz.prog _ _ (Oper.mk (some 11) _ _ _ _ _ :: _) _ _; refine Hid.out ?_))
  unfold Hid
  have hz1 := heap_alloc_new u (.cells #[.int .i64 tk, .string tx, .int .i64 (b : Int), .int .i64 (tn : Int), .int .i64 tf] 64)
  have hz2 := gr_alloc u (.cells #[.int .i64 tk, .string tx, .int .i64 (b : Int), .int .i64 (tn : Int), .int .i64 tf] 64)
  have hKW : Hid (W.heap.size ≤ u.heap.size) := HGu.out.size
  obtain ⟨K, hK⟩ : ∃ K, K = u.heap.size := ⟨_, rfl⟩
  rw [← hK] at hz1 hKW ⊢
  have HGU := hidP (HGu.out.trans hz2 fun _ _ h => h)
  have HKt := hidP hz1
  clear hz1 hz2 hK HGu
  generalize u.alloc (.cells #[.int .i64 tk, .string tx, .int .i64 (b : Int), .int .i64 (tn : Int), .int .i64 tf] 64) = U at HGU HKt ⊢
  have t0 : U.cell? ⟨K, 0, none⟩ = some (.int .i64 tk) := by simp [World.cell?, HKt.out]
  have t1 : U.cell? ⟨K, 1, none⟩ = some (.string tx) := by simp [World.cell?, HKt.out]
  have t2 : U.cell? ⟨K, 2, none⟩ = some (.int .i64 (b : Int)) := by simp [World.cell?, HKt.out]
  have t3 : U.cell? ⟨K, 3, none⟩ = some (.int .i64 (tn : Int)) := by simp [World.cell?, HKt.out]
  have t4 : U.cell? ⟨K, 4, none⟩ = some (.int .i64 tf) := by simp [World.cell?, HKt.out]
  have HXU := hidP ((HGU.out.block p (lt_of_heap HX.out) id).trans HX.out)
  have d0 : U.cell? ⟨p, 0, none⟩ = some (.string s) := by simp [World.cell?, HXU.out]
  have d1 : U.cell? ⟨p, 1, none⟩ = some (.int .i64 (a : Int)) := by simp [World.cell?, HXU.out]
  have d2 : U.cell? ⟨p, 2, none⟩ = some (.int .i64 (o : Int)) := by simp [World.cell?, HXU.out]
  have d3 : U.cell? ⟨p, 3, none⟩ = some (n) := by simp [World.cell?, HXU.out]
  have z1 : U.frozen? ⟨p, 1, none⟩ = false := frz HXU.out 1
  have z2 : U.frozen? ⟨p, 2, none⟩ = false := frz HXU.out 2
  have z3 : U.frozen? ⟨p, 3, none⟩ = false := frz HXU.out 3
  go_wp2_with fail
  go_ret
  exact DeQ.mk' (Gr.n p HGU.out) rfl (HD.out.gr HGU.out)
end Go.Proofs.YtkodgneneiledaaGreatDoor.Kit
