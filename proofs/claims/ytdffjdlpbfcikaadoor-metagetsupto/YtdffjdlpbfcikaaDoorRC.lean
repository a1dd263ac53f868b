import Derived.Test.YtdffjdlpbfcikaaDoorMA
import Derived.Test.YtdffjdlpbfcikaaDoorRP
namespace Go.Proofs.YtdffjdlpbfcikaaDoor.Kit
open Go.RowKit Go.Shelf Go.Deep
set_option linter.unusedVariables false
attribute [local go_sem] run_store_func

/-! ### in memory -/
def flt (er : Int × Nat) : Value := .iface 34 (.agg #[.int .i64 er.1, .slice none 0 0, .int .i64 (er.2 : Int)])
structure RAt (W : World) (p : Nat) (bo : Option Addr) (B : List UInt8) (bc a g : Nat) : Prop where
  box : W.heap[p]? = some (.cells #[.slice bo B.length bc, .int .i64 0, .pointer none, .int .i64 (a : Int), .int .i64 (g : Int)] 74 (0, 0))
  bytes : BytesAt W bo B
  form : SForm bo B.length bc
  ne : ∀ b o, bo = some ⟨b, o, none⟩ → b ≠ p
  len : B.length ≤ 1000000000000
  pos : a ≤ B.length
  few : g ≤ 256
theorem RAt.lt {W : World} {p : Nat} {bo : Option Addr} {B : List UInt8} {bc a g : Nat} (h : RAt W p bo B bc a g) : p < W.heap.size := (Array.getElem?_eq_some_iff.1 h.box).1
theorem BytesAt.kp {W W' : World} {p : Nat} {ao : Option Addr} {bs : List UInt8} (h : BytesAt W ao bs) (k : Keeps W W' (fun z => z = p)) (hne : ∀ b o, ao = some ⟨b, o, none⟩ → b ≠ p) : BytesAt W' ao bs := fun hn => by
  obtain ⟨b, o, e, hc⟩ := h hn
  exact ⟨b, o, e, fun j hj => k.cell' (hc j hj) (hne b o e)⟩
theorem RAt.gr {W W' : World} {p : Nat} {bo : Option Addr} {B : List UInt8} {bc a g : Nat} (h : RAt W p bo B bc a g) (k : Gr W W') : RAt W' p bo B bc a g :=
  ⟨(k.block p h.lt id).trans h.box, h.bytes.gr k, h.form, h.ne, h.len, h.pos, h.few⟩
/-- the reader goes on -/
theorem RAt.set {W : World} {p : Nat} {bo : Option Addr} {B : List UInt8} {bc a g a' : Nat} (h : RAt W p bo B bc a g) (ha : a' ≤ B.length) : RAt (W.setCell ⟨p, 3, none⟩ (.int .i64 (a' : Int))) p bo B bc a' g := by
  refine ⟨?_, h.bytes.kp (p := p) ((Keeps.refl W (fun z => z = p)).setCell (p := ⟨p, 3, none⟩) (fun _ => rfl) _) h.ne, h.form, h.ne, h.len, ha, h.few⟩
  rw [heap_setCell_same W p 3 _ _ _ h.box]
  simp
theorem RAt.more {W : World} {p : Nat} {bo : Option Addr} {B : List UInt8} {bc a g : Nat} (h : RAt W p bo B bc a g) (hg : g < 256) : RAt (W.setCell ⟨p, 4, none⟩ (.int .i64 ((g + 1 : Nat) : Int))) p bo B bc a (g + 1) := by
  refine ⟨?_, h.bytes.kp (p := p) ((Keeps.refl W (fun z => z = p)).setCell (p := ⟨p, 4, none⟩) (fun _ => rfl) _) h.ne, h.form, h.ne, h.len, h.pos, hg⟩
  rw [heap_setCell_same W p 4 _ _ _ h.box]
  simp
theorem RAt.cells {W : World} {p : Nat} {bo : Option Addr} {B : List UInt8} {bc a g : Nat} (h : RAt W p bo B bc a g) : W.cell? ⟨p, 0, none⟩ = some (.slice bo B.length bc) ∧ W.cell? ⟨p, 1, none⟩ = some (.int .i64 0) ∧ W.cell? ⟨p, 2, none⟩ = some (.pointer none) ∧ W.cell? ⟨p, 3, none⟩ = some (.int .i64 (a : Int)) ∧ W.cell? ⟨p, 4, none⟩ = some (.int .i64 (g : Int)) := by simp [World.cell?, h.box]
/-- what a function of the reader does: it answers, or gives up -/
def RdQ {α : Type} (W : World) (p : Nat) (bo : Option Addr) (B : List UInt8) (bc : Nat) (r : Except (Int × Nat) (α × St)) (V : World → α → Value → Prop) (e : Ending) (w' : World) : Prop :=
  Keeps W w' (fun z => z = p) ∧
  match r with
  | .ok (x, s) => ∃ v, e = .returned v ∧ V w' x v ∧ RAt w' p bo B bc s.1 s.2
  | .error er => e = .panicked [{ v := flt er, recovered := false }]
def RdC {α : Type} (p : Nat) (bo : Option Addr) (B : List UInt8) (bc : Nat) (F : Nat) (args : Array Value) (r : Rd α) (V : World → World → α → Value → Prop) : Prop :=
  ∀ W a g, RAt W p bo B bc a g → Calls Tryd.prog F args W (RdQ W p bo B bc (r (a, g)) (V W))
theorem RdQ.err {α : Type} {W w' : World} {p : Nat} {bo : Option Addr} {B : List UInt8} {bc : Nat} {r : Except (Int × Nat) (α × St)} {V : World → α → Value → Prop} {er : Int × Nat} (hk : Keeps W w' (fun z => z = p)) (hr : r = .error er) : RdQ W p bo B bc r V (.panicked [{ v := flt er, recovered := false }]) w' := ⟨hk, by rw [hr]⟩
theorem RdQ.ok {α : Type} {W w' : World} {p : Nat} {bo : Option Addr} {B : List UInt8} {bc : Nat} {r : Except (Int × Nat) (α × St)} {V : World → α → Value → Prop} {x : α} {a g : Nat} {v : Value} (hk : Keeps W w' (fun z => z = p)) (hr : r = .ok (x, (a, g))) (hv : V w' x v) (hR : RAt w' p bo B bc a g) : RdQ W p bo B bc r V (.returned v) w' := ⟨hk, by rw [hr]; exact ⟨v, rfl, hv, hR⟩⟩
theorem kp_put {W u : World} {p : Nat} (h : Gr W u) (i : Nat) (v : Value) : Keeps W (u.setCell ⟨p, i, none⟩ v) (fun z => z = p) :=
  have k : Keeps W u (fun z => z = p) := h.mono fun _ _ h => h.elim
  k.setCell (p := ⟨p, i, none⟩) (fun _ => rfl) v
theorem kp_put2 {W u : World} {p : Nat} (h : Keeps W u (fun z => z = p)) (i : Nat) (v : Value) : Keeps W (u.setCell ⟨p, i, none⟩ v) (fun z => z = p) := h.setCell (p := ⟨p, i, none⟩) (fun _ => rfl) v
/-! ### giveUp 29 -/
set_option maxRecDepth 100000 in
theorem giveUp_any (er : Int) (a : Nat) (w : World) : Calls Tryd.prog 29 #[.int .i64 er, .int .i64 (a : Int)] w fun e w' => e = .panicked [{ v := flt (er, a), recovered := false }] ∧ w = w' := by
  go_enter Tryd.func29, Tryd.ntmps29
  go_wp2
  exact ⟨rfl, rfl, rfl⟩
theorem r4_gr {W W' : World} {p : Nat} {bo : Option Addr} {n bc a : Nat} (g : Gr W W') (h : W.cell? ⟨p, 0, none⟩ = some (.slice bo n bc) ∧ W.cell? ⟨p, 1, none⟩ = some (.int .i64 0) ∧ W.cell? ⟨p, 2, none⟩ = some (.pointer none) ∧ W.cell? ⟨p, 3, none⟩ = some (.int .i64 (a : Int))) : W'.cell? ⟨p, 0, none⟩ = some (.slice bo n bc) ∧ W'.cell? ⟨p, 1, none⟩ = some (.int .i64 0) ∧ W'.cell? ⟨p, 2, none⟩ = some (.pointer none) ∧ W'.cell? ⟨p, 3, none⟩ = some (.int .i64 (a : Int)) := ⟨g.cell' h.1 id, g.cell' h.2.1 id, g.cell' h.2.2.1 id, g.cell' h.2.2.2 id⟩
set_option maxRecDepth 100000 in
set_option maxHeartbeats 2000000 in
theorem number_any (p : Nat) (bo : Option Addr) (B : List UInt8) (bc k : Nat) (hk : k = 1 ∨ k = 2 ∨ k = 4) : RdC p bo B bc 44 #[.pointer (some ⟨p, 0, none⟩), .int .i64 (k : Int)] (numR B k) (fun _ _ x v => v = .int .i64 (x : Int)) := by
  intro W a g hR
  obtain ⟨c0, c1, c2, c3, c4⟩ := hR.cells
  have HR := hidM hR
  have ha := hR.pos
  have hl := hR.len
  have HQd : Hid (Gr W W.drew) := (Keeps.refl W (fun _ => False)).drew
  by_cases h : a + k ≤ B.length
  · have e : numR B k (a, g) = .ok (leN ((B.drop a).take k), (a + k, g)) := if_pos h
    rw [e]
    have hlt : leN ((B.drop a).take k) < 4294967296 := by
      have h1 := leN_lt ((B.drop a).take k)
      have h2 : ((B.drop a).take k).length = k := by simp; omega
      rw [h2] at h1
      rcases hk with rfl | rfl | rfl <;> omega
    have HL : Hid (∀ V, Gr W V → Calls Tryd.prog 62 #[.agg #[.slice bo B.length bc, .int .i64 0, .pointer none], .int .i64 a, .int .i64 k] V fun e w' => e = .returned (.tuple #[.int .u64 (leN ((B.drop a).take k) : Int), .int .i64 0]) ∧ Gr V w') := fun V gV => load_in (a := a) (k := k) hR.form hk h (hR.bytes.gr gV)
    obtain ⟨x, hx⟩ : ∃ x, x = leN ((B.drop a).take k) := ⟨_, rfl⟩
    rw [← hx] at HL hlt ⊢
    have hw : IntKind.i64.wrap (x : Int) = (x : Int) := by rw [IntKind.wrap_i64]; omega
    have hs : IntKind.i64.wrap ((a : Int) + (k : Int)) = ((a + k : Nat) : Int) := by rw [IntKind.wrap_i64]; omega
    clear hR hx e
    have HN := hidM h
    obtain ⟨n, hn⟩ : ∃ n, n = B.length := ⟨_, rfl⟩
    rw [← hn] at c0 HL ha hl h
    have HC : Hid (W.drew.cell? ⟨p, 0, none⟩ = some (.slice bo n bc) ∧ W.drew.cell? ⟨p, 1, none⟩ = some (.int .i64 0) ∧ W.drew.cell? ⟨p, 2, none⟩ = some (.pointer none) ∧ W.drew.cell? ⟨p, 3, none⟩ = some (.int .i64 (a : Int))) := ⟨c0, c1, c2, c3⟩
    clear hn c0 c1 c2 c3 c4
    go_enter Tryd.func44, Tryd.ntmps44
    go_wp2
    go_region_held3 (fun w' => w'.cell? ⟨p, 0, none⟩ = some (.slice bo n bc) ∧ w'.cell? ⟨p, 1, none⟩ = some (.int .i64 0) ∧ w'.cell? ⟨p, 2, none⟩ = some (.pointer none) ∧ w'.cell? ⟨p, 3, none⟩ = some (.int .i64 (a : Int))) (first | with_reducible exact HC.out | with_reducible exact r4_gr HE1.out HC.out) (first | (go_at_call 62; refine Calls.mono (HL.out _ HQd.out) ?_; rintro e u1 ⟨rfl, hg2⟩; have HE1 := hidM hg2; clear hg2))
    have g1 := HQd.out.trans HE1.out (fun _ _ h => h)
    have HR1 := hidM (HR.out.gr g1)
    obtain ⟨d0, d1, d2, d3, d4⟩ := HR1.out.cells
    have z3 := frz HR1.out.box 3
    have HG := hidM g1
    clear g1 HC HE1 HQd
    go_wp2_with fail
    go_ret
    exact RdQ.ok (kp_put HG.out _ _) rfl rfl (by have := HR1.out.set HN.out; simpa using this)
  · have e : numR B k (a, g) = .error (51, a) := if_neg h
    rw [e]
    have HL : Hid (∀ V, Gr W V → Calls Tryd.prog 62 #[.agg #[.slice bo B.length bc, .int .i64 0, .pointer none], .int .i64 a, .int .i64 k] V fun e w' => e = .returned (.tuple #[.int .u64 0, .int .i64 2]) ∧ Gr V w') := fun V gV => load_out (a := a) (k := k) hk (Nat.lt_of_not_le h)
    clear hR e
    obtain ⟨n, hn⟩ : ∃ n, n = B.length := ⟨_, rfl⟩
    rw [← hn] at c0 HL ha hl h
    have HC : Hid (W.drew.cell? ⟨p, 0, none⟩ = some (.slice bo n bc) ∧ W.drew.cell? ⟨p, 1, none⟩ = some (.int .i64 0) ∧ W.drew.cell? ⟨p, 2, none⟩ = some (.pointer none) ∧ W.drew.cell? ⟨p, 3, none⟩ = some (.int .i64 (a : Int))) := ⟨c0, c1, c2, c3⟩
    clear hn c0 c1 c2 c3 c4
    go_enter Tryd.func44, Tryd.ntmps44
    go_wp2
    go_region_held3 (fun w' => w'.cell? ⟨p, 0, none⟩ = some (.slice bo n bc) ∧ w'.cell? ⟨p, 1, none⟩ = some (.int .i64 0) ∧ w'.cell? ⟨p, 2, none⟩ = some (.pointer none) ∧ w'.cell? ⟨p, 3, none⟩ = some (.int .i64 (a : Int))) (first | with_reducible exact HC.out | with_reducible exact r4_gr HE1.out HC.out) (first | (go_at_call 62; refine Calls.mono (HL.out _ HQd.out) ?_; rintro e u1 ⟨rfl, hg2⟩; have HE1 := hidM hg2; clear hg2))
    have g1 := HQd.out.trans HE1.out (fun _ _ h => h)
    obtain ⟨d0, d1, d2, d3, d4⟩ := (HR.out.gr g1).cells
    have HG := hidM g1
    clear g1 HC HE1 HQd
    go_wp2_with (go_at_call 29; refine Hid.out ?_)
    unfold Hid
    refine Calls.mono (giveUp_any 51 a _) ?_
    rintro e W2 ⟨rfl, rfl⟩
    go_wp2_with fail
    exact ⟨rfl, RdQ.err (HG.out.mono fun _ _ h => h.elim) rfl⟩
end Go.Proofs.YtdffjdlpbfcikaaDoor.Kit
namespace Go.Proofs.YtdffjdlpbfcikaaDoor.Kit
open Go.RowKit Go.Shelf Go.Deep
set_option linter.unusedVariables false

/-! ### of a beginning of the bytes -/
def Mon {α : Type} (R : List UInt8 → Rd α) : Prop :=
  ∀ B n s x s', R B s = .ok (x, s') → s.1 ≤ n → n ≤ B.length → s.1 ≤ s'.1 ∧ (s'.1 ≤ n → R (B.take n) s = .ok (x, s')) ∧ (n < s'.1 → ∃ a, R (B.take n) s = .error (51, a) ∧ a ≤ n)
theorem Mon.bind {α β : Type} {R : List UInt8 → Rd α} {f : List UInt8 → α → Rd β} (h1 : Mon R) (h2 : ∀ x, Mon fun B => f B x) : Mon fun B => (R B).bind (f B) := by
  intro B n s y s' h hs hn
  dsimp only at h ⊢
  cases hr : R B s with
  | error e => rw [Rd.bind_err hr] at h; cases h
  | ok q =>
    obtain ⟨x, t⟩ := q
    rw [Rd.bind_ok hr] at h
    obtain ⟨a1, a2, a3⟩ := h1 B n s x t hr hs hn
    by_cases ht : t.1 ≤ n
    · obtain ⟨b1, b2, b3⟩ := h2 x B n t y s' h ht hn
      dsimp only at b2 b3
      refine ⟨by omega, fun h' => ?_, fun h' => ?_⟩
      · rw [Rd.bind_ok (a2 ht)]; exact b2 h'
      · obtain ⟨a, ha, hb⟩ := b3 h'
        exact ⟨a, by rw [Rd.bind_ok (a2 ht)]; exact ha, hb⟩
    · obtain ⟨a, ha, hb⟩ := a3 (by omega)
      -- the rest goes forward as well
      have hB : t.1 ≤ B.length ∨ B.length < t.1 := by omega
      have hfw : t.1 ≤ s'.1 := by
        by_cases hl : t.1 ≤ B.length
        · exact (h2 x B B.length t y s' h hl (Nat.le_refl _)).1
        · obtain ⟨a', ha', _⟩ := (h1 B B.length s x t hr (by omega) (Nat.le_refl _)).2.2 (by omega)
          rw [List.take_of_length_le (Nat.le_refl _), hr] at ha'
          cases ha'
      exact ⟨by omega, fun h' => by omega, fun _ => ⟨a, Rd.bind_err ha, hb⟩⟩
theorem Mon.pure {α : Type} (x : α) : Mon fun _ => Rd.pure x := fun B n s y s' h hs hn => by
  cases h
  exact ⟨Nat.le_refl _, fun _ => rfl, fun h' => by omega⟩
theorem take_mid {B : List UInt8} {a k n : Nat} (h : a + k ≤ n) : ((B.take n).drop a).take k = (B.drop a).take k := by
  rw [List.drop_take, List.take_take, Nat.min_eq_left (by omega)]
theorem mon_num (k : Nat) : Mon fun B => numR B k := by
  intro B n s x s' h hs hn
  dsimp only at h ⊢
  unfold numR at h
  by_cases hk : s.1 + k ≤ B.length
  · rw [if_pos hk] at h
    cases h
    refine ⟨Nat.le_add_right _ _, fun h' => ?_, fun h' => ⟨s.1, ?_, hs⟩⟩
    · show numR (B.take n) k s = _
      unfold numR
      have h'' : s.1 + k ≤ n := h'
      rw [if_pos (by rw [List.length_take]; omega), take_mid h'']
    · show numR (B.take n) k s = _
      unfold numR
      have h'' : n < s.1 + k := h'
      rw [if_neg (by rw [List.length_take]; omega)]
  · rw [if_neg hk] at h; cases h
theorem mon_bytes (k : Nat) : Mon fun B => bytesR B k := by
  intro B n s x s' h hs hn
  dsimp only at h ⊢
  unfold bytesR at h
  by_cases hk : s.1 + k ≤ B.length
  · rw [if_pos hk] at h
    cases h
    refine ⟨Nat.le_add_right _ _, fun h' => ?_, fun h' => ⟨s.1, ?_, hs⟩⟩
    · show bytesR (B.take n) k s = _
      unfold bytesR
      have h'' : s.1 + k ≤ n := h'
      rw [if_pos (by rw [List.length_take]; omega), take_mid h'']
    · show bytesR (B.take n) k s = _
      unfold bytesR
      have h'' : n < s.1 + k := h'
      rw [if_neg (by rw [List.length_take]; omega)]
  · rw [if_neg hk] at h; cases h
theorem mon_among (lo hi : Nat) : Mon fun B => amongR B lo hi := by
  intro B n s x s' h hs hn
  have key : ∀ B', amongR B' lo hi s = (numR B' 1).bind (fun n s' => if n < lo ∨ hi < n then .error (8, s.1) else .ok (n, s')) s := fun _ => rfl
  dsimp only at h ⊢
  rw [key] at h
  cases hr : numR B 1 s with
  | error e => rw [Rd.bind_err hr] at h; cases h
  | ok q =>
    obtain ⟨y, t⟩ := q
    rw [Rd.bind_ok hr] at h
    obtain ⟨a1, a2, a3⟩ := mon_num 1 B n s y t hr hs hn
    by_cases c : y < lo ∨ hi < y
    · rw [if_pos c] at h; cases h
    · rw [if_neg c] at h
      cases h
      refine ⟨a1, fun h' => ?_, fun h' => ?_⟩
      · show amongR (B.take n) lo hi s = _
        rw [key, Rd.bind_ok (a2 h'), if_neg c]
      · obtain ⟨a, ha, hb⟩ := a3 h'
        exact ⟨a, by show amongR (B.take n) lo hi s = _; rw [key, Rd.bind_err ha], hb⟩
theorem mon_flag : Mon flagR := (mon_among 0 1).bind (f := fun _ n => Rd.pure (n == 1)) fun n => Mon.pure _
theorem mon_text (k : Nat) : Mon fun B => textR B k := (mon_num k).bind (f := bytesR) mon_bytes
theorem mon_node : Mon nodeR := (mon_num 4).bind (f := fun B (x : Nat) => (numR B 4).bind fun y => Rd.pure ((x : Int), (y : Int))) fun x => (mon_num 4).bind (f := fun _ (y : Nat) => Rd.pure ((x : Int), (y : Int))) fun y => Mon.pure _
theorem mon_slot : Mon slotR := (mon_num 4).bind (f := fun B (x : Nat) => (numR B 4).bind fun y => (numR B 4).bind fun z => Rd.pure ((x : Int), (y : Int), (z : Int))) fun x => (mon_num 4).bind (f := fun B (y : Nat) => (numR B 4).bind fun z => Rd.pure ((x : Int), (y : Int), (z : Int))) fun y => (mon_num 4).bind (f := fun _ (z : Nat) => Rd.pure ((x : Int), (y : Int), (z : Int))) fun z => Mon.pure _
theorem mon_note : Mon noteR := (mon_text 2).bind (f := fun B x => (textR B 2).bind fun y => Rd.pure (x, y)) fun x => (mon_text 2).bind (f := fun _ y => Rd.pure (x, y)) fun y => Mon.pure _
theorem mon_sevK {α : Type} {R : List UInt8 → Rd α} (h : Mon R) : ∀ (n : Nat) (acc : List α), Mon fun B => sevK (R B) n acc
  | 0, acc => Mon.pure acc
  | n + 1, acc => h.bind (f := fun B x => sevK (R B) n (acc ++ [x])) fun x => mon_sevK h n (acc ++ [x])
theorem mon_sev {α : Type} {R : List UInt8 → Rd α} (h : Mon R) (n : Nat) : Mon fun B => sevR n (R B) := mon_sevK h n []
theorem mon_ext (k : Nat) : Mon fun B => extR B k := by
  unfold extR
  by_cases c1 : k = 14
  · simp only [if_pos c1]; exact (mon_num 2).bind (f := fun _ x => Rd.pure (x, 0, 0, 0)) fun x => Mon.pure _
  simp only [if_neg c1]
  by_cases c2 : k = 16
  · simp only [if_pos c2]; exact (mon_num 2).bind (f := fun _ x => Rd.pure (x, 0, 0, 1)) fun x => Mon.pure _
  simp only [if_neg c2]
  by_cases c3 : k = 19
  · simp only [if_pos c3]; exact (mon_num 2).bind (f := fun B x => (numR B 1).bind fun y => Rd.pure (0, x, y, 1)) fun x => (mon_num 1).bind (f := fun _ y => Rd.pure (0, x, y, 1)) fun y => Mon.pure _
  simp only [if_neg c3]
  by_cases c4 : k = 15 ∨ k = 20
  · simp only [if_pos c4]; exact Mon.pure _
  simp only [if_neg c4]
  by_cases c5 : k = 17 ∨ k = 18
  · simp only [if_pos c5]; exact (mon_num 1).bind (f := fun _ x => Rd.pure (0, 0, 0, x)) fun x => Mon.pure _
  simp only [if_neg c5]
  exact Mon.pure _
theorem mon_typ {R : List UInt8 → Rd FT} (h : Mon R) : Mon fun B => typR B (R B) :=
  (mon_among 1 20).bind (f := fun B k => (extR B k).bind fun e => (sevR e.2.2.2 (R B)).bind fun l => Rd.pure (TD.mk k e.1 e.2.1 e.2.2.1 l)) fun k =>
    (mon_ext k).bind (f := fun B e => (sevR e.2.2.2 (R B)).bind fun l => Rd.pure (TD.mk k e.1 e.2.1 e.2.2.1 l)) fun e =>
      (mon_sev h _).bind (f := fun _ l => Rd.pure (TD.mk k e.1 e.2.1 e.2.2.1 l)) fun l => Mon.pure _
theorem mon_field : ∀ d : Nat, Mon fun B => fieldR B d
  | 0 => fun B n s x s' h => by cases h
  | d + 1 => by
    have ih := mon_field d
    have hin : Mon fun B => (textR B 1).bind fun nm => (flagR B).bind fun nu => (typR B (fieldR B d)).bind fun t => Rd.pure (FT.mk nm nu t.kind t.width t.id t.index t.kids) :=
      (mon_text 1).bind (f := fun B nm => (flagR B).bind fun nu => (typR B (fieldR B d)).bind fun t => Rd.pure (FT.mk nm nu t.kind t.width t.id t.index t.kids)) fun nm =>
        mon_flag.bind (f := fun B nu => (typR B (fieldR B d)).bind fun t => Rd.pure (FT.mk nm nu t.kind t.width t.id t.index t.kids)) fun nu =>
          (mon_typ ih).bind (f := fun _ t => Rd.pure (FT.mk nm nu t.kind t.width t.id t.index t.kids)) fun t => Mon.pure _
    intro B n s x s' h hs hn
    have key : ∀ B', fieldR B' (d + 1) s = if s.2 = 256 then .error (50, s.1) else
      ((textR B' 1).bind fun nm => (flagR B').bind fun nu => (typR B' (fieldR B' d)).bind fun t => Rd.pure (.mk nm nu t.kind t.width t.id t.index t.kids)) (s.1, s.2 + 1) := fun _ => rfl
    dsimp only at h ⊢
    rw [key] at h
    by_cases c : s.2 = 256
    · rw [if_pos c] at h; cases h
    · rw [if_neg c] at h
      obtain ⟨a1, a2, a3⟩ := hin B n (s.1, s.2 + 1) x s' h hs hn
      refine ⟨a1, fun h' => ?_, fun h' => ?_⟩
      · show fieldR (B.take n) (d + 1) s = _
        rw [key, if_neg c]; exact a2 h'
      · obtain ⟨a, ha, hb⟩ := a3 h'
        exact ⟨a, by show fieldR (B.take n) (d + 1) s = _; rw [key, if_neg c]; exact ha, hb⟩
theorem mon_sch : Mon schR :=
  (mon_num 2).bind (f := fun B n => (sevR n (fieldR B 64)).bind fun fs => (numR B 2).bind fun m => (sevR m (noteR B)).bind fun ns => Rd.pure (fs, ns)) fun n =>
    (mon_sev (mon_field 64) n).bind (f := fun B fs => (numR B 2).bind fun m => (sevR m (noteR B)).bind fun ns => Rd.pure (fs, ns)) fun fs =>
      (mon_num 2).bind (f := fun B m => (sevR m (noteR B)).bind fun ns => Rd.pure (fs, ns)) fun m =>
        (mon_sev mon_note m).bind (f := fun _ ns => Rd.pure (fs, ns)) fun ns => Mon.pure _
theorem mon_body (k id : Nat) (dl : Bool) : Mon fun B => bodyR B k id dl :=
  (mon_num 4).bind (f := fun B rows => (numR B 1).bind fun pr => (numR B 2).bind fun n => (sevR n (nodeR B)).bind fun nds => (numR B 2).bind fun m => (sevR m (slotR B)).bind fun sls => Rd.pure (HD.mk k [] [] id dl rows pr nds sls)) fun rows =>
    (mon_num 1).bind (f := fun B pr => (numR B 2).bind fun n => (sevR n (nodeR B)).bind fun nds => (numR B 2).bind fun m => (sevR m (slotR B)).bind fun sls => Rd.pure (HD.mk k [] [] id dl rows pr nds sls)) fun pr =>
      (mon_num 2).bind (f := fun B n => (sevR n (nodeR B)).bind fun nds => (numR B 2).bind fun m => (sevR m (slotR B)).bind fun sls => Rd.pure (HD.mk k [] [] id dl rows pr nds sls)) fun n =>
        (mon_sev mon_node n).bind (f := fun B nds => (numR B 2).bind fun m => (sevR m (slotR B)).bind fun sls => Rd.pure (HD.mk k [] [] id dl rows pr nds sls)) fun nds =>
          (mon_num 2).bind (f := fun B m => (sevR m (slotR B)).bind fun sls => Rd.pure (HD.mk k [] [] id dl rows pr nds sls)) fun m =>
            (mon_sev mon_slot m).bind (f := fun _ sls => Rd.pure (HD.mk k [] [] id dl rows pr nds sls)) fun sls => Mon.pure _
def restR (B : List UInt8) (k : Nat) : Rd HD :=
  if k = 1 then (schR B).bind fun p => Rd.pure ⟨k, p.1, p.2, 0, false, 0, 0, [], []⟩
  else if k = 2 then (numR B 2).bind fun i => (flagR B).bind fun d => bodyR B k i d
  else bodyR B k 0 false
theorem mon_rest (k : Nat) : Mon fun B => restR B k := by
  unfold restR
  by_cases c1 : k = 1
  · simp only [if_pos c1]; exact mon_sch.bind (f := fun _ p => Rd.pure (HD.mk k p.1 p.2 0 false 0 0 [] [])) fun p => Mon.pure _
  simp only [if_neg c1]
  by_cases c2 : k = 2
  · simp only [if_pos c2]; exact (mon_num 2).bind (f := fun B i => (flagR B).bind fun d => bodyR B k i d) fun i => mon_flag.bind (f := fun B d => bodyR B k i d) fun d => mon_body k i d
  simp only [if_neg c2]
  exact mon_body k 0 false
theorem mon_head : Mon headR :=
  (mon_among 1 3).bind (f := fun B k => (amongR B 1 1).bind fun _ => (amongR B 0 0).bind fun _ => (amongR B 0 0).bind fun _ => restR B k) fun k =>
    (mon_among 1 1).bind (f := fun B _ => (amongR B 0 0).bind fun _ => (amongR B 0 0).bind fun _ => restR B k) fun _ =>
      (mon_among 0 0).bind (f := fun B _ => (amongR B 0 0).bind fun _ => restR B k) fun _ =>
        (mon_among 0 0).bind (f := fun B _ => restR B k) fun _ => mon_rest k
end Go.Proofs.YtdffjdlpbfcikaaDoor.Kit
namespace Go.Proofs.YtdffjdlpbfcikaaDoor.Kit
open Go.RowKit Go.Shelf Go.Deep
set_option linter.unusedVariables false
attribute [local go_sem] run_store_func
set_option maxRecDepth 100000 in
set_option maxHeartbeats 4000000 in
theorem among_any (p : Nat) (bo : Option Addr) (B : List UInt8) (bc lo hi : Nat) : RdC p bo B bc 42 #[.pointer (some ⟨p, 0, none⟩), .int .i64 (lo : Int), .int .i64 (hi : Int)] (amongR B lo hi) (fun _ _ x v => v = .int .i64 (x : Int)) := by
  intro W a0 g0 hR
  obtain ⟨R, hRes⟩ : ∃ R, R = amongR B lo hi (a0, g0) := ⟨_, rfl⟩
  rw [← hRes]
  have HRes := hidM hRes
  have HR0 := hidM hR
  have HG0 : Hid (Keeps W W (fun z => z = p)) := Keeps.refl _ _
  have HN := hidM (number_any p bo B bc 1 (.inl rfl))
  clear hR hRes
  have hc3 := HR0.out.cells.2.2.2.1
  go_enter Tryd.func42, Tryd.ntmps42
  go_wp2_with (go_at_call 44; refine Hid.out ?_)
  unfold Hid
  have hq := HN.out _ _ _ HR0.out
  cases hr : numR B 1 (a0, g0) with
  | error er =>
    rw [hr] at hq
    refine Calls.mono hq ?_
    rintro e' U ⟨hk, rfl⟩
    have HGe := hidM (HG0.out.trans hk (fun _ _ h => h))
    have Hr := hidM hr
    clear hk hq hr hc3
    go_wp2_with fail
    exact ⟨rfl, RdQ.err HGe.out (by rw [HRes.out]; exact Rd.bind_err (r := numR B 1) (f := fun n s' => if n < lo ∨ hi < n then .error (8, a0) else .ok (n, s')) Hr.out)⟩
  | ok q =>
    obtain ⟨x1, a1, g1⟩ := q
    rw [hr] at hq
    refine Calls.mono hq ?_
    rintro e' U1 ⟨hk, v, rfl, rfl, hR⟩
    have HG1 := hidM (HG0.out.trans hk (fun _ _ h => h))
    have HR1 := hidM hR
    have Hr1 := hidM hr
    clear hk hq hr hR hc3
    by_cases c1 : x1 < lo
    · have c1' : (x1 : Int) < (lo : Int) := by omega
      go_wp2_with (go_at_call 29; refine Hid.out ?_)
      unfold Hid
      refine Calls.mono (giveUp_any 8 a0 _) ?_
      rintro e' U2 ⟨rfl, rfl⟩
      go_wp2_with fail
      exact ⟨rfl, RdQ.err HG1.out (by rw [HRes.out]; exact (Rd.bind_ok (r := numR B 1) (f := fun n s' => if n < lo ∨ hi < n then .error (8, a0) else .ok (n, s')) Hr1.out).trans (if_pos (.inl c1)))⟩
    · have c1' : ¬ (x1 : Int) < (lo : Int) := by omega
      by_cases c2 : hi < x1
      · have c2' : (hi : Int) < (x1 : Int) := by omega
        go_wp2_with (go_at_call 29; refine Hid.out ?_)
        unfold Hid
        refine Calls.mono (giveUp_any 8 a0 _) ?_
        rintro e' U2 ⟨rfl, rfl⟩
        go_wp2_with fail
        exact ⟨rfl, RdQ.err HG1.out (by rw [HRes.out]; exact (Rd.bind_ok (r := numR B 1) (f := fun n s' => if n < lo ∨ hi < n then .error (8, a0) else .ok (n, s')) Hr1.out).trans (if_pos (.inr c2)))⟩
      · have c2' : ¬ (hi : Int) < (x1 : Int) := by omega
        go_wp2_with fail
        go_ret
        exact RdQ.ok HG1.out (by rw [HRes.out]; exact (Rd.bind_ok (r := numR B 1) (f := fun n s' => if n < lo ∨ hi < n then .error (8, a0) else .ok (n, s')) Hr1.out).trans (if_neg (by omega))) rfl HR1.out
set_option maxRecDepth 100000 in
set_option maxHeartbeats 4000000 in
theorem flag_any (p : Nat) (bo : Option Addr) (B : List UInt8) (bc : Nat) : RdC p bo B bc 45 #[.pointer (some ⟨p, 0, none⟩)] (flagR B) (fun _ _ x v => v = .bool x) := by
  intro W a0 g0 hR
  obtain ⟨R, hRes⟩ : ∃ R, R = flagR B (a0, g0) := ⟨_, rfl⟩
  rw [← hRes]
  have HRes := hidM hRes
  have HR0 := hidM hR
  have HG0 : Hid (Keeps W W (fun z => z = p)) := Keeps.refl _ _
  have HN := hidM (among_any p bo B bc 0 1)
  clear hR hRes
  go_enter Tryd.func45, Tryd.ntmps45
  go_wp2_with (go_at_call 42; refine Hid.out ?_)
  unfold Hid
  have hq := HN.out _ _ _ HR0.out
  cases hr : amongR B 0 1 (a0, g0) with
  | error er =>
    rw [hr] at hq
    refine Calls.mono hq ?_
    rintro e' U ⟨hk, rfl⟩
    have HGe := hidM (HG0.out.trans hk (fun _ _ h => h))
    have Hr := hidM hr
    clear hk hq hr 
    go_wp2_with fail
    exact ⟨rfl, RdQ.err HGe.out (by rw [HRes.out]; exact Rd.bind_err (r := amongR B 0 1) (f := fun n => Rd.pure (n == 1)) Hr.out)⟩
  | ok q =>
    obtain ⟨x1, a1, g1⟩ := q
    rw [hr] at hq
    refine Calls.mono hq ?_
    rintro e' U1 ⟨hk, v, rfl, rfl, hR⟩
    have HG1 := hidM (HG0.out.trans hk (fun _ _ h => h))
    have HR1 := hidM hR
    have Hr1 := hidM hr
    clear hk hq hr hR 
    by_cases c1 : x1 = 1
    · subst c1
      go_wp2_with fail
      go_ret
      exact RdQ.ok HG1.out (by rw [HRes.out]; exact (Rd.bind_ok (r := amongR B 0 1) (f := fun n => Rd.pure (n == 1)) Hr1.out).trans rfl) (by rfl) HR1.out
    · have c1' : ((x1 : Int) == 1) = false := by simp; omega
      have c2' : ¬ (x1 : Int) = 1 := by omega
      go_wp2_with fail
      go_ret
      exact RdQ.ok HG1.out (by rw [HRes.out]; exact (Rd.bind_ok (r := amongR B 0 1) (f := fun n => Rd.pure (n == 1)) Hr1.out).trans rfl) (by simp [c1]) HR1.out
theorem put2_box {V : World} {Y t : Nat} {x0 x1 : Value} (y0 y1 : Value) (h : V.heap[Y]? = some (.cells #[x0, x1] t (0, 0))) : ((V.setCell ⟨Y, 0, none⟩ y0).setCell ⟨Y, 1, none⟩ y1).heap[Y]? = some (.cells #[y0, y1] t (0, 0)) := by
  have h0 := heap_setCell_same V Y 0 _ _ y0 h
  have h1 := heap_setCell_same _ Y 1 _ _ y1 h0
  exact h1
theorem put2_keeps (V : World) (Y : Nat) (y0 y1 : Value) : Keeps V ((V.setCell ⟨Y, 0, none⟩ y0).setCell ⟨Y, 1, none⟩ y1) (fun z => z = Y) :=
  ((Keeps.refl V (fun z => z = Y)).setCell (p := ⟨Y, 0, none⟩) (fun _ => rfl) _).setCell (p := ⟨Y, 1, none⟩) (fun _ => rfl) _
theorem put3_box {V : World} {Y t : Nat} {x0 x1 x2 : Value} (y0 y1 y2 : Value) (h : V.heap[Y]? = some (.cells #[x0, x1, x2] t (0, 0))) : (((V.setCell ⟨Y, 0, none⟩ y0).setCell ⟨Y, 1, none⟩ y1).setCell ⟨Y, 2, none⟩ y2).heap[Y]? = some (.cells #[y0, y1, y2] t (0, 0)) := by
  have h0 := heap_setCell_same V Y 0 _ _ y0 h
  have h1 := heap_setCell_same _ Y 1 _ _ y1 h0
  have h2 := heap_setCell_same _ Y 2 _ _ y2 h1
  exact h2
theorem put3_keeps (V : World) (Y : Nat) (y0 y1 y2 : Value) : Keeps V (((V.setCell ⟨Y, 0, none⟩ y0).setCell ⟨Y, 1, none⟩ y1).setCell ⟨Y, 2, none⟩ y2) (fun z => z = Y) :=
  (((Keeps.refl V (fun z => z = Y)).setCell (p := ⟨Y, 0, none⟩) (fun _ => rfl) _).setCell (p := ⟨Y, 1, none⟩) (fun _ => rfl) _).setCell (p := ⟨Y, 2, none⟩) (fun _ => rfl) _
theorem RAt.over {W U U' : World} {p : Nat} {bo : Option Addr} {B : List UInt8} {bc a0 g0 a g : Nat} (h0 : RAt W p bo B bc a0 g0) (h : RAt U p bo B bc a g) (k : Keeps W U' (fun z => z = p)) (hb : U'.heap[p]? = U.heap[p]?) : RAt U' p bo B bc a g :=
  ⟨hb.trans h.box, h0.bytes.kp k h.ne, h.form, h.ne, h.len, h.pos, h.few⟩
theorem results_cell62 {fn : Func} {t : Tmp} {tmps : Array Value} {g : Nat} {cs : Array Value} {w : World} (h : fn.results = #[.cell t 62]) (ht : tmps.getD t undef = .pointer (some ⟨g, 0, none⟩)) (hg : w.heap[g]? = some (.cells cs 62 (0, 0))) (hi : (Tryd.prog.info? 62).map (·.size) = some cs.size) :
    (results fn tmps).run Tryd.prog w = .ok (.agg cs) w := by
  have hl := run_loadVar_row (P := Tryd.prog) w g 62 62 cs (0, 0) _ hg Tryd.underlying62 rfl hi
  unfold results
  rw [h]
  simp only [Array.mapM_eq_mapM_toList, List.mapM_cons, List.mapM_nil, ht]
  simp [asAddr, hl]
theorem results_cell64 {fn : Func} {t : Tmp} {tmps : Array Value} {g : Nat} {cs : Array Value} {w : World} (h : fn.results = #[.cell t 64]) (ht : tmps.getD t undef = .pointer (some ⟨g, 0, none⟩)) (hg : w.heap[g]? = some (.cells cs 64 (0, 0))) (hi : (Tryd.prog.info? 64).map (·.size) = some cs.size) :
    (results fn tmps).run Tryd.prog w = .ok (.agg cs) w := by
  have hl := run_loadVar_row (P := Tryd.prog) w g 64 64 cs (0, 0) _ hg Tryd.underlying64 rfl hi
  unfold results
  rw [h]
  simp only [Array.mapM_eq_mapM_toList, List.mapM_cons, List.mapM_nil, ht]
  simp [asAddr, hl]
theorem results_cell60 {fn : Func} {t : Tmp} {tmps : Array Value} {g : Nat} {cs : Array Value} {w : World} (h : fn.results = #[.cell t 60]) (ht : tmps.getD t undef = .pointer (some ⟨g, 0, none⟩)) (hg : w.heap[g]? = some (.cells cs 60 (0, 0))) (hi : (Tryd.prog.info? 60).map (·.size) = some cs.size) :
    (results fn tmps).run Tryd.prog w = .ok (.agg cs) w := by
  have hl := run_loadVar_row (P := Tryd.prog) w g 60 60 cs (0, 0) _ hg Tryd.underlying60 rfl hi
  unfold results
  rw [h]
  simp only [Array.mapM_eq_mapM_toList, List.mapM_cons, List.mapM_nil, ht]
  simp [asAddr, hl]
set_option maxRecDepth 100000 in
set_option maxHeartbeats 4000000 in
theorem text_any (p : Nat) (bo : Option Addr) (B : List UInt8) (bc k : Nat) (hk : k = 1 ∨ k = 2 ∨ k = 4) : RdC p bo B bc 77 #[.pointer (some ⟨p, 0, none⟩), .int .i64 (k : Int)] (textR B k) (fun _ _ x v => v = .string x) := by
  intro W a0 g0 hR
  obtain ⟨R, hRes⟩ : ∃ R, R = textR B k (a0, g0) := ⟨_, rfl⟩
  rw [← hRes]
  have HRes := hidM hRes
  have HR0 := hidM hR
  have HG0 : Hid (Keeps W W (fun z => z = p)) := Keeps.refl _ _
  have HN := hidM (number_any p bo B bc k hk)
  clear hR hRes
  go_enter Tryd.func77, Tryd.ntmps77
  go_wp2_with (go_at_call 44; refine Hid.out ?_)
  unfold Hid
  have hq := HN.out _ _ _ HR0.out
  cases hr : numR B k (a0, g0) with
  | error er =>
    rw [hr] at hq
    refine Calls.mono hq ?_
    rintro e' U ⟨hk, rfl⟩
    have HGe := hidM (HG0.out.trans hk (fun _ _ h => h))
    have Hr := hidM hr
    clear hk hq hr 
    go_wp2_with fail
    exact ⟨rfl, RdQ.err HGe.out (by rw [HRes.out]; exact Rd.bind_err (r := numR B k) (f := bytesR B) Hr.out)⟩
  | ok q =>
    obtain ⟨x1, a1, g1⟩ := q
    rw [hr] at hq
    refine Calls.mono hq ?_
    rintro e' U1 ⟨hk, v, rfl, rfl, hR⟩
    have HG1 := hidM (HG0.out.trans hk (fun _ _ h => h))
    have HR1 := hidM hR
    have Hr1 := hidM hr
    clear hk hq hr hR 
    obtain ⟨c0, c1, c2, c3, c4⟩ := HR1.out.cells
    have hl := HR1.out.len
    have ha := HR1.out.pos
    have HQd : Hid (Gr U1 U1.drew) := (Keeps.refl U1 (fun _ => False)).drew
    by_cases h : a1 + x1 ≤ B.length
    · have HB : Hid (bytesR B x1 (a1, g1) = .ok (⟨((B.drop a1).take x1).toArray⟩, (a1 + x1, g1))) := if_pos h
      have HL : Hid (∀ V, Gr U1 V → Calls Tryd.prog 88 #[.agg #[.slice bo B.length bc, .int .i64 0, .pointer none], .int .i64 a1, .int .i64 x1] V fun e w' => e = .returned (.tuple #[.string ⟨((B.drop a1).take x1).toArray⟩, .int .i64 0]) ∧ Gr V w') := fun V gV => vtext_in HR1.out.form h (HR1.out.bytes.gr gV)
      obtain ⟨y, hy⟩ : ∃ y : ByteArray, y = ⟨((B.drop a1).take x1).toArray⟩ := ⟨_, rfl⟩
      rw [← hy] at HL HB
      clear hy
      have HN1 := hidM h
      obtain ⟨n, hn⟩ : ∃ n, n = B.length := ⟨_, rfl⟩
      rw [← hn] at c0 HL ha hl h
      have HC : Hid (U1.drew.cell? ⟨p, 0, none⟩ = some (.slice bo n bc) ∧ U1.drew.cell? ⟨p, 1, none⟩ = some (.int .i64 0) ∧ U1.drew.cell? ⟨p, 2, none⟩ = some (.pointer none) ∧ U1.drew.cell? ⟨p, 3, none⟩ = some (.int .i64 (a1 : Int))) := ⟨c0, c1, c2, c3⟩
      clear hn c0 c1 c2 c3 c4
      go_wp2
      go_region_held3 (fun w' => w'.cell? ⟨p, 0, none⟩ = some (.slice bo n bc) ∧ w'.cell? ⟨p, 1, none⟩ = some (.int .i64 0) ∧ w'.cell? ⟨p, 2, none⟩ = some (.pointer none) ∧ w'.cell? ⟨p, 3, none⟩ = some (.int .i64 (a1 : Int))) (first | with_reducible exact HC.out | with_reducible exact r4_gr HE1.out HC.out) (first | (go_at_call 88; refine Calls.mono (HL.out _ HQd.out) ?_; rintro e u1 ⟨rfl, hg2⟩; have HE1 := hidM hg2; clear hg2))
      have g1' := HQd.out.trans HE1.out (fun _ _ h => h)
      have HR2 := hidM (HR1.out.gr g1')
      obtain ⟨d0, d1, d2, d3, d4⟩ := HR2.out.cells
      have z3 := frz HR2.out.box 3
      have HG2 := hidM (HG1.out.trans (g1'.mono fun _ _ h => h.elim) (fun _ _ h => h))
      clear g1' HC HE1 HQd
      go_wp2_with fail
      go_ret
      exact RdQ.ok (kp_put2 HG2.out _ _) (by rw [HRes.out]; exact (Rd.bind_ok (r := numR B k) (f := bytesR B) Hr1.out).trans HB.out) rfl (by have := HR2.out.set HN1.out; simpa using this)
    · have HB : Hid (bytesR B x1 (a1, g1) = .error (51, a1)) := if_neg h
      have HL : Hid (∀ V, Gr U1 V → Calls Tryd.prog 88 #[.agg #[.slice bo B.length bc, .int .i64 0, .pointer none], .int .i64 a1, .int .i64 x1] V fun e w' => e = .returned (.tuple #[.string ⟨#[]⟩, .int .i64 2]) ∧ Gr V w') := fun V gV => vtext_out (Nat.lt_of_not_le h)
      have HN1 := hidM h
      obtain ⟨n, hn⟩ : ∃ n, n = B.length := ⟨_, rfl⟩
      rw [← hn] at c0 HL ha hl h
      have HC : Hid (U1.drew.cell? ⟨p, 0, none⟩ = some (.slice bo n bc) ∧ U1.drew.cell? ⟨p, 1, none⟩ = some (.int .i64 0) ∧ U1.drew.cell? ⟨p, 2, none⟩ = some (.pointer none) ∧ U1.drew.cell? ⟨p, 3, none⟩ = some (.int .i64 (a1 : Int))) := ⟨c0, c1, c2, c3⟩
      clear hn c0 c1 c2 c3 c4
      go_wp2
      go_region_held3 (fun w' => w'.cell? ⟨p, 0, none⟩ = some (.slice bo n bc) ∧ w'.cell? ⟨p, 1, none⟩ = some (.int .i64 0) ∧ w'.cell? ⟨p, 2, none⟩ = some (.pointer none) ∧ w'.cell? ⟨p, 3, none⟩ = some (.int .i64 (a1 : Int))) (first | with_reducible exact HC.out | with_reducible exact r4_gr HE1.out HC.out) (first | (go_at_call 88; refine Calls.mono (HL.out _ HQd.out) ?_; rintro e u1 ⟨rfl, hg2⟩; have HE1 := hidM hg2; clear hg2))
      have g1' := HQd.out.trans HE1.out (fun _ _ h => h)
      have HR2 := hidM (HR1.out.gr g1')
      obtain ⟨d0, d1, d2, d3, d4⟩ := HR2.out.cells
      have HG2 := hidM (HG1.out.trans (g1'.mono fun _ _ h => h.elim) (fun _ _ h => h))
      clear g1' HC HE1 HQd
      go_wp2_with (go_at_call 29; refine Hid.out ?_)
      unfold Hid
      refine Calls.mono (giveUp_any 51 a1 _) ?_
      rintro e' U2 ⟨rfl, rfl⟩
      go_wp2_with fail
      exact ⟨rfl, RdQ.err HG2.out (by rw [HRes.out]; exact (Rd.bind_ok (r := numR B k) (f := bytesR B) Hr1.out).trans HB.out)⟩
end Go.Proofs.YtdffjdlpbfcikaaDoor.Kit
namespace Go.Proofs.YtdffjdlpbfcikaaDoor.Kit
open Go.RowKit Go.Shelf Go.Deep
set_option linter.unusedVariables false
attribute [local go_sem] run_store_func
set_option maxRecDepth 100000 in
set_option maxHeartbeats 4000000 in
theorem node_any (p : Nat) (bo : Option Addr) (B : List UInt8) (bc : Nat) : RdC p bo B bc 47 #[.pointer (some ⟨p, 0, none⟩)] (nodeR B) (fun _ _ x v => v = .agg #[.int .i64 x.1, .int .i64 x.2]) := by
  intro W a00 g00 hR00
  obtain ⟨R, hRes⟩ : ∃ R, R = nodeR B (a00, g00) := ⟨_, rfl⟩
  rw [← hRes]
  have HRes := hidM hRes
  obtain ⟨V0, hV0⟩ : ∃ V0, W.alloc (.cells #[.int .i64 0, .int .i64 0] 62) = V0 := ⟨_, rfl⟩
  have g0' : Gr W V0 := by rw [← hV0]; exact gr_alloc W _
  have HBx0 : Hid (V0.heap[W.heap.size]? = some (.cells #[.int .i64 0, .int .i64 0] 62 (0, 0))) := by show _ = _; rw [← hV0]; exact heap_alloc_new W _
  have HR00 := hidM hR00
  have HR0 := hidM (hR00.gr g0')
  have HG0 : Hid (Keeps W V0 (fun z => z = p)) := g0'.mono fun _ _ h => h.elim
  have HV := hidM hV0
  have hne : p < W.heap.size := hR00.lt
  have HNe := hidM hne
  have HN := hidM (number_any p bo B bc 4 (.inr (.inr rfl)))
  obtain ⟨a0, ha0⟩ : ∃ a0, a0 = a00 := ⟨_, rfl⟩
  obtain ⟨g0, hg0⟩ : ∃ g0, g0 = g00 := ⟨_, rfl⟩
  rw [← ha0, ← hg0] at HR00 HR0 HRes
  obtain ⟨b, hb⟩ : ∃ b, b = W.heap.size := ⟨_, rfl⟩
  clear hRes g0' hR00 hV0 ha0 hg0 hne
  go_enter Tryd.func47, Tryd.ntmps47
  go_wp2_with (go_at_call 44; refine Hid.out ?_)
  unfold Hid
  rw [HV.out, ← hb]
  rw [← hb] at HBx0 HNe
  have HB := hidM hb
  clear HV hb
  have hq := HN.out _ _ _ HR0.out
  cases hr : numR B 4 (a0, g0) with
  | error er =>
    rw [hr] at hq
    refine Calls.mono hq ?_
    rintro e' U ⟨hk, rfl⟩
    have HGe := hidM (HG0.out.trans hk (fun _ _ h => h))
    have Hr := hidM hr
    clear hk hq hr
    go_wp2_with fail
    exact ⟨rfl, RdQ.err HGe.out (by rw [HRes.out]; exact Rd.bind_err Hr.out)⟩
  | ok q =>
    obtain ⟨x1, a1, g1⟩ := q
    rw [hr] at hq
    refine Calls.mono hq ?_
    rintro e' U1 ⟨hk, v, rfl, rfl, hR⟩
    have HBx1 := hidM ((hk.block b (lt_of_heap HBx0.out) (by have := HNe.out; omega)).trans HBx0.out)
    have HG1 := hidM (HG0.out.trans hk (fun _ _ h => h))
    have HR1 := hidM hR
    have Hr1 := hidM hr
    clear hk hq hr hR HBx0
    go_wp2_with (go_at_call 44; refine Hid.out ?_)
    unfold Hid
    have hq := HN.out _ _ _ HR1.out
    cases hr : numR B 4 (a1, g1) with
    | error er =>
      rw [hr] at hq
      refine Calls.mono hq ?_
      rintro e' U ⟨hk, rfl⟩
      have HGe := hidM (HG1.out.trans hk (fun _ _ h => h))
      have Hr := hidM hr
      clear hk hq hr
      go_wp2_with fail
      exact ⟨rfl, RdQ.err HGe.out (by rw [HRes.out]; exact (Rd.bind_ok Hr1.out).trans (Rd.bind_err Hr.out))⟩
    | ok q =>
      obtain ⟨x2, a2, g2⟩ := q
      rw [hr] at hq
      refine Calls.mono hq ?_
      rintro e' U2 ⟨hk, v, rfl, rfl, hR⟩
      have HBx2 := hidM ((hk.block b (lt_of_heap HBx1.out) (by have := HNe.out; omega)).trans HBx1.out)
      have HG2 := hidM (HG1.out.trans hk (fun _ _ h => h))
      have HR2 := hidM hR
      have Hr2 := hidM hr
      clear hk hq hr hR HBx1
      have z0 := frz HBx2.out 0
      have t0 : U2.cell? ⟨b, 0, none⟩ = some (.int .i64 0) := by simp [World.cell?, HBx2.out]
      have z1 := frz HBx2.out 1
      have t1 : U2.cell? ⟨b, 1, none⟩ = some (.int .i64 0) := by simp [World.cell?, HBx2.out]
      go_wp2_with fail
      have hb3 := put2_box (.int .i64 (x1 : Int)) (.int .i64 (x2 : Int)) HBx2.out
      have k3 := put2_keeps U2 b (.int .i64 (x1 : Int)) (.int .i64 (x2 : Int))
      have kW := HG2.out.trans k3 (fun j hj h => by have := HB.out; omega)
      have hE : R = .ok (((x1 : Int), (x2 : Int)), (a2, g2)) := by rw [HRes.out]; exact (Rd.bind_ok Hr1.out).trans ((Rd.bind_ok Hr2.out).trans (rfl))
      (try simp only [Exit.inBlock, Exit.then])
      exact bodyPost_ret (results_cell62 rfl rfl hb3 (by kernel_rfl)) rfl (RdQ.ok kW hE rfl (RAt.over HR00.out HR2.out kW (k3.block p (lt_of_heap HR2.out.box) (by have := HNe.out; omega))))
set_option maxRecDepth 100000 in
set_option maxHeartbeats 4000000 in
theorem slot_any (p : Nat) (bo : Option Addr) (B : List UInt8) (bc : Nat) : RdC p bo B bc 49 #[.pointer (some ⟨p, 0, none⟩)] (slotR B) (fun _ _ x v => v = .agg #[.int .i64 x.1, .int .i64 x.2.1, .int .i64 x.2.2]) := by
  intro W a00 g00 hR00
  obtain ⟨R, hRes⟩ : ∃ R, R = slotR B (a00, g00) := ⟨_, rfl⟩
  rw [← hRes]
  have HRes := hidM hRes
  obtain ⟨V0, hV0⟩ : ∃ V0, W.alloc (.cells #[.int .i64 0, .int .i64 0, .int .i64 0] 64) = V0 := ⟨_, rfl⟩
  have g0' : Gr W V0 := by rw [← hV0]; exact gr_alloc W _
  have HBx0 : Hid (V0.heap[W.heap.size]? = some (.cells #[.int .i64 0, .int .i64 0, .int .i64 0] 64 (0, 0))) := by show _ = _; rw [← hV0]; exact heap_alloc_new W _
  have HR00 := hidM hR00
  have HR0 := hidM (hR00.gr g0')
  have HG0 : Hid (Keeps W V0 (fun z => z = p)) := g0'.mono fun _ _ h => h.elim
  have HV := hidM hV0
  have hne : p < W.heap.size := hR00.lt
  have HNe := hidM hne
  have HN := hidM (number_any p bo B bc 4 (.inr (.inr rfl)))
  obtain ⟨a0, ha0⟩ : ∃ a0, a0 = a00 := ⟨_, rfl⟩
  obtain ⟨g0, hg0⟩ : ∃ g0, g0 = g00 := ⟨_, rfl⟩
  rw [← ha0, ← hg0] at HR00 HR0 HRes
  obtain ⟨b, hb⟩ : ∃ b, b = W.heap.size := ⟨_, rfl⟩
  clear hRes g0' hR00 hV0 ha0 hg0 hne
  go_enter Tryd.func49, Tryd.ntmps49
  go_wp2_with (go_at_call 44; refine Hid.out ?_)
  unfold Hid
  rw [HV.out, ← hb]
  rw [← hb] at HBx0 HNe
  have HB := hidM hb
  clear HV hb
  have hq := HN.out _ _ _ HR0.out
  cases hr : numR B 4 (a0, g0) with
  | error er =>
    rw [hr] at hq
    refine Calls.mono hq ?_
    rintro e' U ⟨hk, rfl⟩
    have HGe := hidM (HG0.out.trans hk (fun _ _ h => h))
    have Hr := hidM hr
    clear hk hq hr
    go_wp2_with fail
    exact ⟨rfl, RdQ.err HGe.out (by rw [HRes.out]; exact Rd.bind_err Hr.out)⟩
  | ok q =>
    obtain ⟨x1, a1, g1⟩ := q
    rw [hr] at hq
    refine Calls.mono hq ?_
    rintro e' U1 ⟨hk, v, rfl, rfl, hR⟩
    have HBx1 := hidM ((hk.block b (lt_of_heap HBx0.out) (by have := HNe.out; omega)).trans HBx0.out)
    have HG1 := hidM (HG0.out.trans hk (fun _ _ h => h))
    have HR1 := hidM hR
    have Hr1 := hidM hr
    clear hk hq hr hR HBx0
    go_wp2_with (go_at_call 44; refine Hid.out ?_)
    unfold Hid
    have hq := HN.out _ _ _ HR1.out
    cases hr : numR B 4 (a1, g1) with
    | error er =>
      rw [hr] at hq
      refine Calls.mono hq ?_
      rintro e' U ⟨hk, rfl⟩
      have HGe := hidM (HG1.out.trans hk (fun _ _ h => h))
      have Hr := hidM hr
      clear hk hq hr
      go_wp2_with fail
      exact ⟨rfl, RdQ.err HGe.out (by rw [HRes.out]; exact (Rd.bind_ok Hr1.out).trans (Rd.bind_err Hr.out))⟩
    | ok q =>
      obtain ⟨x2, a2, g2⟩ := q
      rw [hr] at hq
      refine Calls.mono hq ?_
      rintro e' U2 ⟨hk, v, rfl, rfl, hR⟩
      have HBx2 := hidM ((hk.block b (lt_of_heap HBx1.out) (by have := HNe.out; omega)).trans HBx1.out)
      have HG2 := hidM (HG1.out.trans hk (fun _ _ h => h))
      have HR2 := hidM hR
      have Hr2 := hidM hr
      clear hk hq hr hR HBx1
      go_wp2_with (go_at_call 44; refine Hid.out ?_)
      unfold Hid
      have hq := HN.out _ _ _ HR2.out
      cases hr : numR B 4 (a2, g2) with
      | error er =>
        rw [hr] at hq
        refine Calls.mono hq ?_
        rintro e' U ⟨hk, rfl⟩
        have HGe := hidM (HG2.out.trans hk (fun _ _ h => h))
        have Hr := hidM hr
        clear hk hq hr
        go_wp2_with fail
        exact ⟨rfl, RdQ.err HGe.out (by rw [HRes.out]; exact (Rd.bind_ok Hr1.out).trans ((Rd.bind_ok Hr2.out).trans (Rd.bind_err Hr.out)))⟩
      | ok q =>
        obtain ⟨x3, a3, g3⟩ := q
        rw [hr] at hq
        refine Calls.mono hq ?_
        rintro e' U3 ⟨hk, v, rfl, rfl, hR⟩
        have HBx3 := hidM ((hk.block b (lt_of_heap HBx2.out) (by have := HNe.out; omega)).trans HBx2.out)
        have HG3 := hidM (HG2.out.trans hk (fun _ _ h => h))
        have HR3 := hidM hR
        have Hr3 := hidM hr
        clear hk hq hr hR HBx2
        have z0 := frz HBx3.out 0
        have t0 : U3.cell? ⟨b, 0, none⟩ = some (.int .i64 0) := by simp [World.cell?, HBx3.out]
        have z1 := frz HBx3.out 1
        have t1 : U3.cell? ⟨b, 1, none⟩ = some (.int .i64 0) := by simp [World.cell?, HBx3.out]
        have z2 := frz HBx3.out 2
        have t2 : U3.cell? ⟨b, 2, none⟩ = some (.int .i64 0) := by simp [World.cell?, HBx3.out]
        go_wp2_with fail
        have hb3 := put3_box (.int .i64 (x1 : Int)) (.int .i64 (x2 : Int)) (.int .i64 (x3 : Int)) HBx3.out
        have k3 := put3_keeps U3 b (.int .i64 (x1 : Int)) (.int .i64 (x2 : Int)) (.int .i64 (x3 : Int))
        have kW := HG3.out.trans k3 (fun j hj h => by have := HB.out; omega)
        have hE : R = .ok (((x1 : Int), (x2 : Int), (x3 : Int)), (a3, g3)) := by rw [HRes.out]; exact (Rd.bind_ok Hr1.out).trans ((Rd.bind_ok Hr2.out).trans ((Rd.bind_ok Hr3.out).trans (rfl)))
        (try simp only [Exit.inBlock, Exit.then])
        exact bodyPost_ret (results_cell64 rfl rfl hb3 (by kernel_rfl)) rfl (RdQ.ok kW hE rfl (RAt.over HR00.out HR3.out kW (k3.block p (lt_of_heap HR3.out.box) (by have := HNe.out; omega))))
set_option maxRecDepth 100000 in
set_option maxHeartbeats 4000000 in
theorem note_any (p : Nat) (bo : Option Addr) (B : List UInt8) (bc : Nat) : RdC p bo B bc 61 #[.pointer (some ⟨p, 0, none⟩)] (noteR B) (fun _ _ x v => v = .agg #[.string x.1, .string x.2]) := by
  intro W a00 g00 hR00
  obtain ⟨R, hRes⟩ : ∃ R, R = noteR B (a00, g00) := ⟨_, rfl⟩
  rw [← hRes]
  have HRes := hidM hRes
  obtain ⟨V0, hV0⟩ : ∃ V0, W.alloc (.cells #[.string ⟨#[]⟩, .string ⟨#[]⟩] 60) = V0 := ⟨_, rfl⟩
  have g0' : Gr W V0 := by rw [← hV0]; exact gr_alloc W _
  have HBx0 : Hid (V0.heap[W.heap.size]? = some (.cells #[.string ⟨#[]⟩, .string ⟨#[]⟩] 60 (0, 0))) := by show _ = _; rw [← hV0]; exact heap_alloc_new W _
  have HR00 := hidM hR00
  have HR0 := hidM (hR00.gr g0')
  have HG0 : Hid (Keeps W V0 (fun z => z = p)) := g0'.mono fun _ _ h => h.elim
  have HV := hidM hV0
  have hne : p < W.heap.size := hR00.lt
  have HNe := hidM hne
  have HN := hidM (text_any p bo B bc 2 (.inr (.inl rfl)))
  obtain ⟨a0, ha0⟩ : ∃ a0, a0 = a00 := ⟨_, rfl⟩
  obtain ⟨g0, hg0⟩ : ∃ g0, g0 = g00 := ⟨_, rfl⟩
  rw [← ha0, ← hg0] at HR00 HR0 HRes
  obtain ⟨b, hb⟩ : ∃ b, b = W.heap.size := ⟨_, rfl⟩
  clear hRes g0' hR00 hV0 ha0 hg0 hne
  go_enter Tryd.func61, Tryd.ntmps61
  go_wp2_with (go_at_call 77; refine Hid.out ?_)
  unfold Hid
  rw [HV.out, ← hb]
  rw [← hb] at HBx0 HNe
  have HB := hidM hb
  clear HV hb
  have hq := HN.out _ _ _ HR0.out
  cases hr : textR B 2 (a0, g0) with
  | error er =>
    rw [hr] at hq
    refine Calls.mono hq ?_
    rintro e' U ⟨hk, rfl⟩
    have HGe := hidM (HG0.out.trans hk (fun _ _ h => h))
    have Hr := hidM hr
    clear hk hq hr
    go_wp2_with fail
    exact ⟨rfl, RdQ.err HGe.out (by rw [HRes.out]; exact Rd.bind_err Hr.out)⟩
  | ok q =>
    obtain ⟨x1, a1, g1⟩ := q
    rw [hr] at hq
    refine Calls.mono hq ?_
    rintro e' U1 ⟨hk, v, rfl, rfl, hR⟩
    have HBx1 := hidM ((hk.block b (lt_of_heap HBx0.out) (by have := HNe.out; omega)).trans HBx0.out)
    have HG1 := hidM (HG0.out.trans hk (fun _ _ h => h))
    have HR1 := hidM hR
    have Hr1 := hidM hr
    clear hk hq hr hR HBx0
    go_wp2_with (go_at_call 77; refine Hid.out ?_)
    unfold Hid
    have hq := HN.out _ _ _ HR1.out
    cases hr : textR B 2 (a1, g1) with
    | error er =>
      rw [hr] at hq
      refine Calls.mono hq ?_
      rintro e' U ⟨hk, rfl⟩
      have HGe := hidM (HG1.out.trans hk (fun _ _ h => h))
      have Hr := hidM hr
      clear hk hq hr
      go_wp2_with fail
      exact ⟨rfl, RdQ.err HGe.out (by rw [HRes.out]; exact (Rd.bind_ok Hr1.out).trans (Rd.bind_err Hr.out))⟩
    | ok q =>
      obtain ⟨x2, a2, g2⟩ := q
      rw [hr] at hq
      refine Calls.mono hq ?_
      rintro e' U2 ⟨hk, v, rfl, rfl, hR⟩
      have HBx2 := hidM ((hk.block b (lt_of_heap HBx1.out) (by have := HNe.out; omega)).trans HBx1.out)
      have HG2 := hidM (HG1.out.trans hk (fun _ _ h => h))
      have HR2 := hidM hR
      have Hr2 := hidM hr
      clear hk hq hr hR HBx1
      have z0 := frz HBx2.out 0
      have t0 : U2.cell? ⟨b, 0, none⟩ = some (.string ⟨#[]⟩) := by simp [World.cell?, HBx2.out]
      have z1 := frz HBx2.out 1
      have t1 : U2.cell? ⟨b, 1, none⟩ = some (.string ⟨#[]⟩) := by simp [World.cell?, HBx2.out]
      go_wp2_with fail
      have hb3 := put2_box (.string x1) (.string x2) HBx2.out
      have k3 := put2_keeps U2 b (.string x1) (.string x2)
      have kW := HG2.out.trans k3 (fun j hj h => by have := HB.out; omega)
      have hE : R = .ok ((x1, x2), (a2, g2)) := by rw [HRes.out]; exact (Rd.bind_ok Hr1.out).trans ((Rd.bind_ok Hr2.out).trans (rfl))
      (try simp only [Exit.inBlock, Exit.then])
      exact bodyPost_ret (results_cell60 rfl rfl hb3 (by kernel_rfl)) rfl (RdQ.ok kW hE rfl (RAt.over HR00.out HR2.out kW (k3.block p (lt_of_heap HR2.out.box) (by have := HNe.out; omega))))
end Go.Proofs.YtdffjdlpbfcikaaDoor.Kit
