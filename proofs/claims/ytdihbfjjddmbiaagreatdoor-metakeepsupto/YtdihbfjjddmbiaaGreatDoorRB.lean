import Derived.Test.YtdihbfjjddmbiaaGreatDoorMA
import Derived.Test.YtdihbfjjddmbiaaGreatDoorRP
set_option maxRecDepth 100000
set_option maxHeartbeats 4000000
namespace Go.Proofs.YtdihbfjjddmbiaaGreatDoor.Kit
open Go.RowKit Go.Shelf Go.Deep
set_option linter.unusedVariables false
attribute [local go_sem] run_store_func
def flt (er : Int × Nat) : Value := .iface 67 (.agg #[.int .i64 er.1, .slice none 0 0, .int .i64 (er.2 : Int)])
structure RAt (W : World) (p : Nat) (bo : Option Addr) (B : List UInt8) (bc a g : Nat) : Prop where
  box : W.heap[p]? = some (.cells #[.slice bo B.length bc, .int .i64 0, .pointer none, .int .i64 (a : Int), .int .i64 (g : Int)] 111 (0, 0))
  bytes : BytesAt W bo B
  form : SForm bo B.length bc
  ne : ∀ b o, bo = some ⟨b, o, none⟩ → b ≠ p
  len : B.length ≤ 1000000000000
  pos : a ≤ B.length
  few : g ≤ 256
theorem RAt.lt {W : World} {p : Nat} {bo : Option Addr} {B : List UInt8} {bc a g : Nat} (h : RAt W p bo B bc a g) : p < W.heap.size := (Array.getElem?_eq_some_iff.1 h.box).1
theorem BytesAt.kp {W W' : World} {p : Nat} {ao : Option Addr} {bs : List UInt8} (h : BytesAt W ao bs) (k : Keeps W W' (fun z => z = p)) (hne : ∀ b o, ao = some ⟨b, o, none⟩ → b ≠ p) : BytesAt W' ao bs := fun hn => by
  obtain ⟨b, o, e, hc⟩ := h hn
  exact ⟨b, o, e, fun j hj => k.cell' (hc j hj) (hne b o e)⟩
theorem RAt.gr {W W' : World} {p : Nat} {bo : Option Addr} {B : List UInt8} {bc a g : Nat} (h : RAt W p bo B bc a g) (k : Gr W W') : RAt W' p bo B bc a g :=
  ⟨(k.block p h.lt id).trans h.box, h.bytes.gr k, h.form, h.ne, h.len, h.pos, h.few⟩
theorem RAt.set {W : World} {p : Nat} {bo : Option Addr} {B : List UInt8} {bc a g a' : Nat} (h : RAt W p bo B bc a g) (ha : a' ≤ B.length) : RAt (W.setCell ⟨p, 3, none⟩ (.int .i64 (a' : Int))) p bo B bc a' g := by
  refine ⟨?_, h.bytes.kp (p := p) ((Keeps.refl W (fun z => z = p)).setCell (p := ⟨p, 3, none⟩) (fun _ => rfl) _) h.ne, h.form, h.ne, h.len, ha, h.few⟩
  rw [heap_setCell_same W p 3 _ _ _ h.box]
  simp
theorem RAt.more {W : World} {p : Nat} {bo : Option Addr} {B : List UInt8} {bc a g : Nat} (h : RAt W p bo B bc a g) (hg : g < 256) : RAt (W.setCell ⟨p, 4, none⟩ (.int .i64 ((g + 1 : Nat) : Int))) p bo B bc a (g + 1) := by
  refine ⟨?_, h.bytes.kp (p := p) ((Keeps.refl W (fun z => z = p)).setCell (p := ⟨p, 4, none⟩) (fun _ => rfl) _) h.ne, h.form, h.ne, h.len, h.pos, hg⟩
  rw [heap_setCell_same W p 4 _ _ _ h.box]
  simp
theorem RAt.cells {W : World} {p : Nat} {bo : Option Addr} {B : List UInt8} {bc a g : Nat} (h : RAt W p bo B bc a g) : W.cell? ⟨p, 0, none⟩ = some (.slice bo B.length bc) ∧ W.cell? ⟨p, 1, none⟩ = some (.int .i64 0) ∧ W.cell? ⟨p, 2, none⟩ = some (.pointer none) ∧ W.cell? ⟨p, 3, none⟩ = some (.int .i64 (a : Int)) ∧ W.cell? ⟨p, 4, none⟩ = some (.int .i64 (g : Int)) := by simp [World.cell?, h.box]
def RdQ {α : Type} (W : World) (p : Nat) (bo : Option Addr) (B : List UInt8) (bc : Nat) (r : Except (Int × Nat) (α × St)) (V : World → α → Value → Prop) (e : Ending) (w' : World) : Prop :=
  Keeps W w' (fun z => z = p) ∧
  match r with
  | .ok (x, s) => ∃ v, e = .returned v ∧ V w' x v ∧ RAt w' p bo B bc s.1 s.2
  | .error er => e = .panicked [{ v := flt er, recovered := false }]
def RdC {α : Type} (p : Nat) (bo : Option Addr) (B : List UInt8) (bc : Nat) (F : Nat) (args : Array Value) (r : Rd α) (V : World → World → α → Value → Prop) : Prop :=
  ∀ W a g, RAt W p bo B bc a g → Calls Tryz.prog F args W (RdQ W p bo B bc (r (a, g)) (V W))
theorem RdQ.err {α : Type} {W w' : World} {p : Nat} {bo : Option Addr} {B : List UInt8} {bc : Nat} {r : Except (Int × Nat) (α × St)} {V : World → α → Value → Prop} {er : Int × Nat} (hk : Keeps W w' (fun z => z = p)) (hr : r = .error er) : RdQ W p bo B bc r V (.panicked [{ v := flt er, recovered := false }]) w' := ⟨hk, by rw [hr]⟩
theorem RdQ.ok {α : Type} {W w' : World} {p : Nat} {bo : Option Addr} {B : List UInt8} {bc : Nat} {r : Except (Int × Nat) (α × St)} {V : World → α → Value → Prop} {x : α} {a g : Nat} {v : Value} (hk : Keeps W w' (fun z => z = p)) (hr : r = .ok (x, (a, g))) (hv : V w' x v) (hR : RAt w' p bo B bc a g) : RdQ W p bo B bc r V (.returned v) w' := ⟨hk, by rw [hr]; exact ⟨v, rfl, hv, hR⟩⟩
theorem kp_put {W u : World} {p : Nat} (h : Gr W u) (i : Nat) (v : Value) : Keeps W (u.setCell ⟨p, i, none⟩ v) (fun z => z = p) :=
  have k : Keeps W u (fun z => z = p) := h.mono fun _ _ h => h.elim
  k.setCell (p := ⟨p, i, none⟩) (fun _ => rfl) v
theorem kp_put2 {W u : World} {p : Nat} (h : Keeps W u (fun z => z = p)) (i : Nat) (v : Value) : Keeps W (u.setCell ⟨p, i, none⟩ v) (fun z => z = p) := h.setCell (p := ⟨p, i, none⟩) (fun _ => rfl) v
theorem giveUp_any (er : Int) (a : Nat) (w : World) : Calls Tryz.prog 65 #[.int .i64 er, .int .i64 (a : Int)] w fun e w' => e = .panicked [{ v := flt (er, a), recovered := false }] ∧ w = w' := by
  go_enter Tryz.func65, Tryz.ntmps65
  go_wp2
  exact ⟨rfl, rfl, rfl⟩
theorem r4_gr {W W' : World} {p : Nat} {bo : Option Addr} {n bc a : Nat} (g : Gr W W') (h : W.cell? ⟨p, 0, none⟩ = some (.slice bo n bc) ∧ W.cell? ⟨p, 1, none⟩ = some (.int .i64 0) ∧ W.cell? ⟨p, 2, none⟩ = some (.pointer none) ∧ W.cell? ⟨p, 3, none⟩ = some (.int .i64 (a : Int))) : W'.cell? ⟨p, 0, none⟩ = some (.slice bo n bc) ∧ W'.cell? ⟨p, 1, none⟩ = some (.int .i64 0) ∧ W'.cell? ⟨p, 2, none⟩ = some (.pointer none) ∧ W'.cell? ⟨p, 3, none⟩ = some (.int .i64 (a : Int)) := ⟨g.cell' h.1 id, g.cell' h.2.1 id, g.cell' h.2.2.1 id, g.cell' h.2.2.2 id⟩
theorem number_any (p : Nat) (bo : Option Addr) (B : List UInt8) (bc k : Nat) (hk : k = 1 ∨ k = 2 ∨ k = 4) : RdC p bo B bc 77 #[.pointer (some ⟨p, 0, none⟩), .int .i64 (k : Int)] (numR B k) (fun _ _ x v => v = .int .i64 (x : Int)) := by
  intro W a g hR
  obtain ⟨c0, c1, c2, c3, c4⟩ := hR.cells
  have HR := hidM hR
  have ha := hR.pos
  have hl := hR.len
  have HQd : Hid (Gr W W.drew) := (Keeps.refl W (fun _ => False)).drew
  by_cases h : a + k ≤ B.length
  · have e : numR B k (a, g) = .ok (leN ((B.drop a).take k), (a + k, g)) := if_pos h
    rw [e]
    have hlt : leN ((B.drop a).take k) < 4294967296 := by
      have h1 := leN_lt ((B.drop a).take k)
      have h2 : ((B.drop a).take k).length = k := by simp; omega
      rw [h2] at h1
      rcases hk with rfl | rfl | rfl <;> omega
    have HL : Hid (∀ V, Gr W V → Calls Tryz.prog 93 #[.agg #[.slice bo B.length bc, .int .i64 0, .pointer none], .int .i64 a, .int .i64 k] V fun e w' => e = .returned (.tuple #[.int .u64 (leN ((B.drop a).take k) : Int), .int .i64 0]) ∧ Gr V w') := fun V gV => load_in (a := a) (k := k) hR.form hk h (hR.bytes.gr gV)
    obtain ⟨x, hx⟩ : ∃ x, x = leN ((B.drop a).take k) := ⟨_, rfl⟩
    rw [← hx] at HL hlt ⊢
    have hw : IntKind.i64.wrap (x : Int) = (x : Int) := by rw [IntKind.wrap_i64]; omega
    have hs : IntKind.i64.wrap ((a : Int) + (k : Int)) = ((a + k : Nat) : Int) := by rw [IntKind.wrap_i64]; omega
    clear hR hx e
    have HN := hidM h
    obtain ⟨n, hn⟩ : ∃ n, n = B.length := ⟨_, rfl⟩
    rw [← hn] at c0 HL ha hl h
    have HC : Hid (W.drew.cell? ⟨p, 0, none⟩ = some (.slice bo n bc) ∧ W.drew.cell? ⟨p, 1, none⟩ = some (.int .i64 0) ∧ W.drew.cell? ⟨p, 2, none⟩ = some (.pointer none) ∧ W.drew.cell? ⟨p, 3, none⟩ = some (.int .i64 (a : Int))) := ⟨c0, c1, c2, c3⟩
    clear hn c0 c1 c2 c3 c4
    go_enter Tryz.func77, Tryz.ntmps77
    go_wp2
    go_region_held3 (fun w' => w'.cell? ⟨p, 0, none⟩ = some (.slice bo n bc) ∧ w'.cell? ⟨p, 1, none⟩ = some (.int .i64 0) ∧ w'.cell? ⟨p, 2, none⟩ = some (.pointer none) ∧ w'.cell? ⟨p, 3, none⟩ = some (.int .i64 (a : Int))) (first | with_reducible exact HC.out | with_reducible exact r4_gr HE1.out HC.out) (first | (go_at_call 93; refine Calls.mono (HL.out _ HQd.out) ?_; rintro e u1 ⟨rfl, hg2⟩; have HE1 := hidM hg2; clear hg2))
    have g1 := HQd.out.tr HE1.out
    have HR1 := hidM (HR.out.gr g1)
    obtain ⟨d0, d1, d2, d3, d4⟩ := HR1.out.cells
    have z3 := frz HR1.out.box 3
    have HG := hidM g1
    clear g1 HC HE1 HQd
    go_wp2_with fail
    go_ret
    exact RdQ.ok (kp_put HG.out _ _) rfl rfl (by have := HR1.out.set HN.out; simpa using this)
  have e : numR B k (a, g) = .error (51, a) := if_neg h
  rw [e]
  have HL : Hid (∀ V, Gr W V → Calls Tryz.prog 93 #[.agg #[.slice bo B.length bc, .int .i64 0, .pointer none], .int .i64 a, .int .i64 k] V fun e w' => e = .returned (.tuple #[.int .u64 0, .int .i64 2]) ∧ Gr V w') := fun V gV => load_out (a := a) (k := k) hk (Nat.lt_of_not_le h)
  clear hR e
  obtain ⟨n, hn⟩ : ∃ n, n = B.length := ⟨_, rfl⟩
  rw [← hn] at c0 HL ha hl h
  have HC : Hid (W.drew.cell? ⟨p, 0, none⟩ = some (.slice bo n bc) ∧ W.drew.cell? ⟨p, 1, none⟩ = some (.int .i64 0) ∧ W.drew.cell? ⟨p, 2, none⟩ = some (.pointer none) ∧ W.drew.cell? ⟨p, 3, none⟩ = some (.int .i64 (a : Int))) := ⟨c0, c1, c2, c3⟩
  clear hn c0 c1 c2 c3 c4
  go_enter Tryz.func77, Tryz.ntmps77
  go_wp2
  go_region_held3 (fun w' => w'.cell? ⟨p, 0, none⟩ = some (.slice bo n bc) ∧ w'.cell? ⟨p, 1, none⟩ = some (.int .i64 0) ∧ w'.cell? ⟨p, 2, none⟩ = some (.pointer none) ∧ w'.cell? ⟨p, 3, none⟩ = some (.int .i64 (a : Int))) (first | with_reducible exact HC.out | with_reducible exact r4_gr HE1.out HC.out) (first | (go_at_call 93; refine Calls.mono (HL.out _ HQd.out) ?_; rintro e u1 ⟨rfl, hg2⟩; have HE1 := hidM hg2; clear hg2))
  have g1 := HQd.out.tr HE1.out
  obtain ⟨d0, d1, d2, d3, d4⟩ := (HR.out.gr g1).cells
  have HG := hidM g1
  clear g1 HC HE1 HQd
  go_wp2_with (go_at_call 65; refine Hid.out ?_)
  unfold Hid
  refine Calls.mono (giveUp_any 51 a _) ?_
  rintro e W2 ⟨rfl, rfl⟩
  go_wp2_with fail
  exact ⟨rfl, RdQ.err (HG.out.mono fun _ _ h => h.elim) rfl⟩
end Go.Proofs.YtdihbfjjddmbiaaGreatDoor.Kit
namespace Go.Proofs.YtdihbfjjddmbiaaGreatDoor.Kit
open Go.RowKit Go.Shelf Go.Deep
set_option linter.unusedVariables false
def restR (B : List UInt8) (k : Nat) : Rd HD :=
  if k = 1 then (schR B).bind fun p => Rd.pure ⟨k, p.1, p.2, 0, false, 0, 0, [], []⟩
  else if k = 2 then (numR B 2).bind fun i => (flagR B).bind fun d => bodyR B k i d
  else bodyR B k 0 false
end Go.Proofs.YtdihbfjjddmbiaaGreatDoor.Kit
namespace Go.Proofs.YtdihbfjjddmbiaaGreatDoor.Kit
open Go.RowKit Go.Shelf Go.Deep
set_option linter.unusedVariables false
attribute [local go_sem] run_store_func
theorem among_any (p : Nat) (bo : Option Addr) (B : List UInt8) (bc lo hi : Nat) : RdC p bo B bc 75 #[.pointer (some ⟨p, 0, none⟩), .int .i64 (lo : Int), .int .i64 (hi : Int)] (amongR B lo hi) (fun _ _ x v => v = .int .i64 (x : Int)) := by
  intro W a0 g0 hR
  obtain ⟨R, hRes⟩ : ∃ R, R = amongR B lo hi (a0, g0) := ⟨_, rfl⟩
  rw [← hRes]
  have HRes := hidM hRes
  have HR0 := hidM hR
  have HG0 : Hid (Keeps W W (fun z => z = p)) := Keeps.refl _ _
  have HN := hidM (number_any p bo B bc 1 (.inl rfl))
  clear hR hRes
  have hc3 := HR0.out.cells.2.2.2.1
  go_enter Tryz.func75, Tryz.ntmps75
  go_wp2_with (go_at_call 77; refine Hid.out ?_)
  unfold Hid
  have hq := HN.out _ _ _ HR0.out
  cases hr : numR B 1 (a0, g0) with
  | error er =>
    rw [hr] at hq
    refine Calls.mono hq ?_
    rintro e' U ⟨hk, rfl⟩
    have HGe := hidM (HG0.out.tr hk)
    have Hr := hidM hr
    clear hk hq hr hc3
    go_wp2_with fail
    exact ⟨rfl, RdQ.err HGe.out (by rw [HRes.out]; exact Rd.bind_err (r := numR B 1) (f := fun n s' => if n < lo ∨ hi < n then .error (8, a0) else .ok (n, s')) Hr.out)⟩
  | ok q =>
    obtain ⟨x1, a1, g1⟩ := q
    rw [hr] at hq
    refine Calls.mono hq ?_
    rintro e' U1 ⟨hk, v, rfl, rfl, hR⟩
    have HG1 := hidM (HG0.out.tr hk)
    have HR1 := hidM hR
    have Hr1 := hidM hr
    clear hk hq hr hR hc3
    by_cases c1 : x1 < lo
    · have c1' : (x1 : Int) < (lo : Int) := by omega
      go_wp2_with (go_at_call 65; refine Hid.out ?_)
      unfold Hid
      refine Calls.mono (giveUp_any 8 a0 _) ?_
      rintro e' U2 ⟨rfl, rfl⟩
      go_wp2_with fail
      exact ⟨rfl, RdQ.err HG1.out (by rw [HRes.out]; exact (Rd.bind_ok (r := numR B 1) (f := fun n s' => if n < lo ∨ hi < n then .error (8, a0) else .ok (n, s')) Hr1.out).trans (if_pos (.inl c1)))⟩
    have c1' : ¬ (x1 : Int) < (lo : Int) := by omega
    by_cases c2 : hi < x1
    · have c2' : (hi : Int) < (x1 : Int) := by omega
      go_wp2_with (go_at_call 65; refine Hid.out ?_)
      unfold Hid
      refine Calls.mono (giveUp_any 8 a0 _) ?_
      rintro e' U2 ⟨rfl, rfl⟩
      go_wp2_with fail
      exact ⟨rfl, RdQ.err HG1.out (by rw [HRes.out]; exact (Rd.bind_ok (r := numR B 1) (f := fun n s' => if n < lo ∨ hi < n then .error (8, a0) else .ok (n, s')) Hr1.out).trans (if_pos (.inr c2)))⟩
    have c2' : ¬ (hi : Int) < (x1 : Int) := by omega
    go_wp2_with fail
    go_ret
    exact RdQ.ok HG1.out (by rw [HRes.out]; exact (Rd.bind_ok (r := numR B 1) (f := fun n s' => if n < lo ∨ hi < n then .error (8, a0) else .ok (n, s')) Hr1.out).trans (if_neg (by omega))) rfl HR1.out
theorem flag_any (p : Nat) (bo : Option Addr) (B : List UInt8) (bc : Nat) : RdC p bo B bc 78 #[.pointer (some ⟨p, 0, none⟩)] (flagR B) (fun _ _ x v => v = .bool x) := by
  intro W a0 g0 hR
  obtain ⟨R, hRes⟩ : ∃ R, R = flagR B (a0, g0) := ⟨_, rfl⟩
  rw [← hRes]
  have HRes := hidM hRes
  have HR0 := hidM hR
  have HG0 : Hid (Keeps W W (fun z => z = p)) := Keeps.refl _ _
  have HN := hidM (among_any p bo B bc 0 1)
  clear hR hRes
  go_enter Tryz.func78, Tryz.ntmps78
  go_wp2_with (go_at_call 75; refine Hid.out ?_)
  unfold Hid
  have hq := HN.out _ _ _ HR0.out
  cases hr : amongR B 0 1 (a0, g0) with
  | error er =>
    rw [hr] at hq
    refine Calls.mono hq ?_
    rintro e' U ⟨hk, rfl⟩
    have HGe := hidM (HG0.out.tr hk)
    have Hr := hidM hr
    clear hk hq hr
    go_wp2_with fail
    exact ⟨rfl, RdQ.err HGe.out (by rw [HRes.out]; exact Rd.bind_err (r := amongR B 0 1) (f := fun n => Rd.pure (n == 1)) Hr.out)⟩
  | ok q =>
    obtain ⟨x1, a1, g1⟩ := q
    rw [hr] at hq
    refine Calls.mono hq ?_
    rintro e' U1 ⟨hk, v, rfl, rfl, hR⟩
    have HG1 := hidM (HG0.out.tr hk)
    have HR1 := hidM hR
    have Hr1 := hidM hr
    clear hk hq hr hR
    by_cases c1 : x1 = 1
    · subst c1
      go_wp2_with fail
      go_ret
      exact RdQ.ok HG1.out (by rw [HRes.out]; exact (Rd.bind_ok (r := amongR B 0 1) (f := fun n => Rd.pure (n == 1)) Hr1.out).trans rfl) (by rfl) HR1.out
    have c1' : ((x1 : Int) == 1) = false := by simp; omega
    have c2' : ¬ (x1 : Int) = 1 := by omega
    go_wp2_with fail
    go_ret
    exact RdQ.ok HG1.out (by rw [HRes.out]; exact (Rd.bind_ok (r := amongR B 0 1) (f := fun n => Rd.pure (n == 1)) Hr1.out).trans rfl) (by simp [c1]) HR1.out
theorem put2_box {V : World} {Y t : Nat} {x0 x1 : Value} (y0 y1 : Value) (h : V.heap[Y]? = some (.cells #[x0, x1] t (0, 0))) : ((V.setCell ⟨Y, 0, none⟩ y0).setCell ⟨Y, 1, none⟩ y1).heap[Y]? = some (.cells #[y0, y1] t (0, 0)) := by
  have h0 := heap_setCell_same V Y 0 _ _ y0 h
  have h1 := heap_setCell_same _ Y 1 _ _ y1 h0
  exact h1
theorem put2_keeps (V : World) (Y : Nat) (y0 y1 : Value) : Keeps V ((V.setCell ⟨Y, 0, none⟩ y0).setCell ⟨Y, 1, none⟩ y1) (fun z => z = Y) :=
  ((Keeps.refl V (fun z => z = Y)).setCell (p := ⟨Y, 0, none⟩) (fun _ => rfl) _).setCell (p := ⟨Y, 1, none⟩) (fun _ => rfl) _
theorem put3_box {V : World} {Y t : Nat} {x0 x1 x2 : Value} (y0 y1 y2 : Value) (h : V.heap[Y]? = some (.cells #[x0, x1, x2] t (0, 0))) : (((V.setCell ⟨Y, 0, none⟩ y0).setCell ⟨Y, 1, none⟩ y1).setCell ⟨Y, 2, none⟩ y2).heap[Y]? = some (.cells #[y0, y1, y2] t (0, 0)) := by
  have h0 := heap_setCell_same V Y 0 _ _ y0 h
  have h1 := heap_setCell_same _ Y 1 _ _ y1 h0
  have h2 := heap_setCell_same _ Y 2 _ _ y2 h1
  exact h2
theorem put3_keeps (V : World) (Y : Nat) (y0 y1 y2 : Value) : Keeps V (((V.setCell ⟨Y, 0, none⟩ y0).setCell ⟨Y, 1, none⟩ y1).setCell ⟨Y, 2, none⟩ y2) (fun z => z = Y) :=
  (((Keeps.refl V (fun z => z = Y)).setCell (p := ⟨Y, 0, none⟩) (fun _ => rfl) _).setCell (p := ⟨Y, 1, none⟩) (fun _ => rfl) _).setCell (p := ⟨Y, 2, none⟩) (fun _ => rfl) _
theorem RAt.over {W U U' : World} {p : Nat} {bo : Option Addr} {B : List UInt8} {bc a0 g0 a g : Nat} (h0 : RAt W p bo B bc a0 g0) (h : RAt U p bo B bc a g) (k : Keeps W U' (fun z => z = p)) (hb : U'.heap[p]? = U.heap[p]?) : RAt U' p bo B bc a g :=
  ⟨hb.trans h.box, h0.bytes.kp k h.ne, h.form, h.ne, h.len, h.pos, h.few⟩
theorem results_cell62 {fn : Func} {t : Tmp} {tmps : Array Value} {g : Nat} {cs : Array Value} {w : World} (h : fn.results = #[.cell t 44]) (ht : tmps.getD t undef = .pointer (some ⟨g, 0, none⟩)) (hg : w.heap[g]? = some (.cells cs 44 (0, 0))) (hi : (Tryz.prog.info? 44).map (·.size) = some cs.size) :
    (results fn tmps).run Tryz.prog w = .ok (.agg cs) w := by
  have hl := run_loadVar_row (P := Tryz.prog) w g 44 44 cs (0, 0) _ hg Tryz.underlying44 rfl hi
  unfold results
  rw [h]
  simp only [Array.mapM_eq_mapM_toList, List.mapM_cons, List.mapM_nil, ht]
  simp [asAddr, hl]
theorem results_cell64 {fn : Func} {t : Tmp} {tmps : Array Value} {g : Nat} {cs : Array Value} {w : World} (h : fn.results = #[.cell t 46]) (ht : tmps.getD t undef = .pointer (some ⟨g, 0, none⟩)) (hg : w.heap[g]? = some (.cells cs 46 (0, 0))) (hi : (Tryz.prog.info? 46).map (·.size) = some cs.size) :
    (results fn tmps).run Tryz.prog w = .ok (.agg cs) w := by
  have hl := run_loadVar_row (P := Tryz.prog) w g 46 46 cs (0, 0) _ hg Tryz.underlying46 rfl hi
  unfold results
  rw [h]
  simp only [Array.mapM_eq_mapM_toList, List.mapM_cons, List.mapM_nil, ht]
  simp [asAddr, hl]
theorem results_cell60 {fn : Func} {t : Tmp} {tmps : Array Value} {g : Nat} {cs : Array Value} {w : World} (h : fn.results = #[.cell t 55]) (ht : tmps.getD t undef = .pointer (some ⟨g, 0, none⟩)) (hg : w.heap[g]? = some (.cells cs 55 (0, 0))) (hi : (Tryz.prog.info? 55).map (·.size) = some cs.size) :
    (results fn tmps).run Tryz.prog w = .ok (.agg cs) w := by
  have hl := run_loadVar_row (P := Tryz.prog) w g 55 55 cs (0, 0) _ hg Tryz.underlying55 rfl hi
  unfold results
  rw [h]
  simp only [Array.mapM_eq_mapM_toList, List.mapM_cons, List.mapM_nil, ht]
  simp [asAddr, hl]
theorem text_any (p : Nat) (bo : Option Addr) (B : List UInt8) (bc k : Nat) (hk : k = 1 ∨ k = 2 ∨ k = 4) : RdC p bo B bc 104 #[.pointer (some ⟨p, 0, none⟩), .int .i64 (k : Int)] (textR B k) (fun _ _ x v => v = .string x) := by
  intro W a0 g0 hR
  obtain ⟨R, hRes⟩ : ∃ R, R = textR B k (a0, g0) := ⟨_, rfl⟩
  rw [← hRes]
  have HRes := hidM hRes
  have HR0 := hidM hR
  have HG0 : Hid (Keeps W W (fun z => z = p)) := Keeps.refl _ _
  have HN := hidM (number_any p bo B bc k hk)
  clear hR hRes
  go_enter Tryz.func104, Tryz.ntmps104
  go_wp2_with (go_at_call 77; refine Hid.out ?_)
  unfold Hid
  have hq := HN.out _ _ _ HR0.out
  cases hr : numR B k (a0, g0) with
  | error er =>
    rw [hr] at hq
    refine Calls.mono hq ?_
    rintro e' U ⟨hk, rfl⟩
    have HGe := hidM (HG0.out.tr hk)
    have Hr := hidM hr
    clear hk hq hr
    go_wp2_with fail
    exact ⟨rfl, RdQ.err HGe.out (by rw [HRes.out]; exact Rd.bind_err (r := numR B k) (f := bytesR B) Hr.out)⟩
  | ok q =>
    obtain ⟨x1, a1, g1⟩ := q
    rw [hr] at hq
    refine Calls.mono hq ?_
    rintro e' U1 ⟨hk, v, rfl, rfl, hR⟩
    have HG1 := hidM (HG0.out.tr hk)
    have HR1 := hidM hR
    have Hr1 := hidM hr
    clear hk hq hr hR
    obtain ⟨c0, c1, c2, c3, c4⟩ := HR1.out.cells
    have hl := HR1.out.len
    have ha := HR1.out.pos
    have HQd : Hid (Gr U1 U1.drew) := (Keeps.refl U1 (fun _ => False)).drew
    by_cases h : a1 + x1 ≤ B.length
    · have HB : Hid (bytesR B x1 (a1, g1) = .ok (⟨((B.drop a1).take x1).toArray⟩, (a1 + x1, g1))) := if_pos h
      have HL : Hid (∀ V, Gr U1 V → Calls Tryz.prog 109 #[.agg #[.slice bo B.length bc, .int .i64 0, .pointer none], .int .i64 a1, .int .i64 x1] V fun e w' => e = .returned (.tuple #[.string ⟨((B.drop a1).take x1).toArray⟩, .int .i64 0]) ∧ Gr V w') := fun V gV => vtext_in HR1.out.form h (HR1.out.bytes.gr gV)
      obtain ⟨y, hy⟩ : ∃ y : ByteArray, y = ⟨((B.drop a1).take x1).toArray⟩ := ⟨_, rfl⟩
      rw [← hy] at HL HB
      clear hy
      have HN1 := hidM h
      obtain ⟨n, hn⟩ : ∃ n, n = B.length := ⟨_, rfl⟩
      rw [← hn] at c0 HL ha hl h
      have HC : Hid (U1.drew.cell? ⟨p, 0, none⟩ = some (.slice bo n bc) ∧ U1.drew.cell? ⟨p, 1, none⟩ = some (.int .i64 0) ∧ U1.drew.cell? ⟨p, 2, none⟩ = some (.pointer none) ∧ U1.drew.cell? ⟨p, 3, none⟩ = some (.int .i64 (a1 : Int))) := ⟨c0, c1, c2, c3⟩
      clear hn c0 c1 c2 c3 c4
      go_wp2
      go_region_held3 (fun w' => w'.cell? ⟨p, 0, none⟩ = some (.slice bo n bc) ∧ w'.cell? ⟨p, 1, none⟩ = some (.int .i64 0) ∧ w'.cell? ⟨p, 2, none⟩ = some (.pointer none) ∧ w'.cell? ⟨p, 3, none⟩ = some (.int .i64 (a1 : Int))) (first | with_reducible exact HC.out | with_reducible exact r4_gr HE1.out HC.out) (first | (go_at_call 109; refine Calls.mono (HL.out _ HQd.out) ?_; rintro e u1 ⟨rfl, hg2⟩; have HE1 := hidM hg2; clear hg2))
      have g1' := HQd.out.tr HE1.out
      have HR2 := hidM (HR1.out.gr g1')
      obtain ⟨d0, d1, d2, d3, d4⟩ := HR2.out.cells
      have z3 := frz HR2.out.box 3
      have HG2 := hidM (HG1.out.tr (g1'.mono fun _ _ h => h.elim))
      clear g1' HC HE1 HQd
      go_wp2_with fail
      go_ret
      exact RdQ.ok (kp_put2 HG2.out _ _) (by rw [HRes.out]; exact (Rd.bind_ok (r := numR B k) (f := bytesR B) Hr1.out).trans HB.out) rfl (by have := HR2.out.set HN1.out; simpa using this)
    have HB : Hid (bytesR B x1 (a1, g1) = .error (51, a1)) := if_neg h
    have HL : Hid (∀ V, Gr U1 V → Calls Tryz.prog 109 #[.agg #[.slice bo B.length bc, .int .i64 0, .pointer none], .int .i64 a1, .int .i64 x1] V fun e w' => e = .returned (.tuple #[.string ⟨#[]⟩, .int .i64 2]) ∧ Gr V w') := fun V gV => vtext_out (Nat.lt_of_not_le h)
    have HN1 := hidM h
    obtain ⟨n, hn⟩ : ∃ n, n = B.length := ⟨_, rfl⟩
    rw [← hn] at c0 HL ha hl h
    have HC : Hid (U1.drew.cell? ⟨p, 0, none⟩ = some (.slice bo n bc) ∧ U1.drew.cell? ⟨p, 1, none⟩ = some (.int .i64 0) ∧ U1.drew.cell? ⟨p, 2, none⟩ = some (.pointer none) ∧ U1.drew.cell? ⟨p, 3, none⟩ = some (.int .i64 (a1 : Int))) := ⟨c0, c1, c2, c3⟩
    clear hn c0 c1 c2 c3 c4
    go_wp2
    go_region_held3 (fun w' => w'.cell? ⟨p, 0, none⟩ = some (.slice bo n bc) ∧ w'.cell? ⟨p, 1, none⟩ = some (.int .i64 0) ∧ w'.cell? ⟨p, 2, none⟩ = some (.pointer none) ∧ w'.cell? ⟨p, 3, none⟩ = some (.int .i64 (a1 : Int))) (first | with_reducible exact HC.out | with_reducible exact r4_gr HE1.out HC.out) (first | (go_at_call 109; refine Calls.mono (HL.out _ HQd.out) ?_; rintro e u1 ⟨rfl, hg2⟩; have HE1 := hidM hg2; clear hg2))
    have g1' := HQd.out.tr HE1.out
    have HR2 := hidM (HR1.out.gr g1')
    obtain ⟨d0, d1, d2, d3, d4⟩ := HR2.out.cells
    have HG2 := hidM (HG1.out.tr (g1'.mono fun _ _ h => h.elim))
    clear g1' HC HE1 HQd
    go_wp2_with (go_at_call 65; refine Hid.out ?_)
    unfold Hid
    refine Calls.mono (giveUp_any 51 a1 _) ?_
    rintro e' U2 ⟨rfl, rfl⟩
    go_wp2_with fail
    exact ⟨rfl, RdQ.err HG2.out (by rw [HRes.out]; exact (Rd.bind_ok (r := numR B k) (f := bytesR B) Hr1.out).trans HB.out)⟩
end Go.Proofs.YtdihbfjjddmbiaaGreatDoor.Kit
