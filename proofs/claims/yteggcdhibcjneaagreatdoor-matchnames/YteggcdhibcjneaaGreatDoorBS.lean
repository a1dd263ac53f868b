import Derived.Test.YteggcdhibcjneaaGreatDoorBQ
import Derived.Recover
import Derived.Defers
set_option maxRecDepth 100000
set_option maxHeartbeats 4000000
namespace Go.Proofs.YteggcdhibcjneaaGreatDoor.Kit
variable {nx : Bool}
open Go.RowKit Go.Shelf Go.Deep
open Go.Proofs.YteggcdhibcjneaaGreatDoor.Kd (Ans AnsV cell5 cell2)
set_option linter.unusedVariables false
set_option linter.unusedSimpArgs false
attribute [local go_sem] run_store_func

theorem wp_hid {P : Program} {c : Code} {Q : Exit → Act → World → Prop} {a : Act} {w : World} (h : c.wp P (fun e a w => Hid (Q e a w)) a w) : c.wp P Q a w := Code.wp_mono (fun e a w h => h.out) h
theorem same_set {W : World} {b ty j : Nat} {c : Array Value} {v : Value} (h : W.heap[b]? = some (.cells c ty)) (hv : c.setIfInBounds j v = c) : Gr W (W.setCell ⟨b, j, none⟩ v) := by
  have k : Keeps W (W.setCell ⟨b, j, none⟩ v) (fun z => z = b) := Keeps.setCell (S := fun z => z = b) (p := ⟨b, j, none⟩) (Keeps.refl W _) (fun _ => rfl) _
  refine ⟨k.os, k.tape, k.output, k.size, fun z hz _ => ?_⟩
  by_cases e : z = b
  · subst e
    rw [heap_setCell_same W z j _ _ v h, h, hv]
  · exact k.block z hz e
theorem end32 (t : Nat) (W : World) (h : W.heap[t]? = some (.cells #[.int .i64 0, .slice none 0 0] 216)) : Calls Tryz.prog 149 #[.pointer (some ⟨t, 0, none⟩)] W fun e w' => e = .returned (.tuple #[]) ∧ Gr W w' := by
  obtain ⟨c0, c1⟩ := cell2 h
  have z1 := frz h 1
  have HG := hidM (same_set (j := 1) (v := .slice none 0 0) h rfl)
  go_enter Tryz.func149, Tryz.ntmps149
  go_wp2
  go_end0
  exact ⟨rfl, HG.out⟩
/-- the builder's cells -/
def bdC (nx : Bool) (nu : Bool) (fo : Option Addr) (fc n t : Nat) (rows : Int) : Array Value := #[.string (nmB nx), .bool nu, .int .i64 3, .int .i64 0, .int .i64 0, .int .i64 0, .slice fo 0 fc, .pointer (some ⟨n, 0, none⟩), .pointer (some ⟨t, 0, none⟩), .int .i64 rows]
theorem take30 (bb : Nat) (r : Addr) (p n t : Nat) (nu : Bool) (fo : Option Addr) (fc : Nat) (rows : Int) (w : World) (hr : 0 ≤ rows ∧ rows ≤ 100000) (hb : w.heap[bb]? = some (.cells #[.pointer (some ⟨p, 0, none⟩)] 188)) (hp : w.heap[p]? = some (.cells (bdC nx nu fo fc n t rows) 220)) (ht : w.heap[t]? = some (.cells #[.int .i64 0, .slice none 0 0] 216)) :
    CallsD Tryz.prog 147 #[.pointer (some ⟨bb, 0, none⟩), .pointer (some r)] .returning w fun e u' w' => e = .returned (.tuple #[]) ∧ u' = .returning ∧ Keeps w w' (fun z => z = p) ∧ w'.heap[p]? = some (.cells (bdC nx nu fo fc n t (rows + 1)) 220) := by
  have q0 : w.cell? ⟨bb, 0, none⟩ = some (.pointer (some ⟨p, 0, none⟩)) := by simp [World.cell?, hb]
  have p9 : w.cell? ⟨p, 9, none⟩ = some (.int .i64 rows) := by simp [World.cell?, hp, bdC]
  have z9 := frz hp 9
  have hwr : IntKind.i64.wrap (rows + 1) = rows + 1 := by rw [IntKind.wrap_i64]; omega
  obtain ⟨U, hU⟩ : ∃ U, w.setCell ⟨p, 9, none⟩ (.int .i64 (rows + 1)) = U := ⟨_, rfl⟩
  have kU : Keeps w U (fun z => z = p) := by rw [← hU]; exact Keeps.setCell (S := fun z => z = p) (p := ⟨p, 9, none⟩) (Keeps.refl w _) (fun _ => rfl) _
  have hpU : U.heap[p]? = some (.cells (bdC nx nu fo fc n t (rows + 1)) 220) := by rw [← hU, heap_setCell_same w p 9 _ _ _ hp]; rfl
  have hbp : bb ≠ p := fun e => by rw [e, hp] at hb; simp at hb
  have htp : t ≠ p := fun e => by rw [e, hp] at ht; simp at ht
  have q0U : U.cell? ⟨bb, 0, none⟩ = some (.pointer (some ⟨p, 0, none⟩)) := kU.cell' q0 hbp
  have p8U : U.cell? ⟨p, 8, none⟩ = some (.pointer (some ⟨t, 0, none⟩)) := by simp [World.cell?, hpU, bdC]
  have HE := hidM (end32 t U ((kU.block t (lt_of_heap ht) htp).trans ht))
  have HK := hidM kU
  have HP := hidM hpU
  clear hb hp ht kU hpU hbp htp hr
  refine callsD_of_wpS Tryz.func147 rfl fun c₀ cs hu => ?_
  apply wpS_seq
  apply wpS_seq
  apply wpS_region
  simp [wpOpsS, go_sem, recoverD, hu, Tryz.ntmps147, Exit.thenS]
  have HHU := hidM hu
  clear hu
  have htm : (#[Value.pointer (some ⟨bb, 0, none⟩), Value.pointer (some r)] ++ (Array.replicate 28 undef).setIfInBounds 3 Value.nilIface : Array Value) = #[Value.pointer (some ⟨bb, 0, none⟩), .pointer (some r), undef, undef, undef, .nilIface, undef, undef, undef, undef, undef, undef, undef, undef, undef, undef, undef, undef, undef, undef, undef, undef, undef, undef, undef, undef, undef, undef, undef, undef] := by kernel_rfl
  rw [htm]
  clear htm
  refine wpS_of_wp ?_
  refine wp_hid ?_
  go_wp2_with fail
  unfold Hid
  show Code.wpS _ _ _ _ _ _
  refine wpS_of_wp ?_
  refine wp_hid ?_
  go_wp2_with (go_at_call 149; refine HE.out.mono ?_; rintro e w2 ⟨rfl, g⟩; have HG := hidM g; clear g)
  unfold Hid
  have hk : Keeps w w2 (fun z => z = p) := HK.out.trans HG.out (fun _ _ h => h.elim)
  have hp : w2.heap[p]? = some (.cells (bdC nx nu fo fc n t (rows + 1)) 220) := (HG.out.block p (lt_of_heap HP.out) id).trans HP.out
  have hu := HHU.out
  cases c₀
  simp_all [bodyPostS, results, Tryz.results147]
def IsD (B : Nat) (w : World) (k : Nat) : Prop := B ≤ k ∧ ∃ cs ty fz, w.heap[k]? = some (.cells cs ty fz) ∧ (ty = 220 ∨ ty = 264 ∨ ty = 329 ∨ ty = 4 ∨ ty = 2)
def FrD (B : Nat) (w W : World) : Prop := Keeps w W (IsD B w)
theorem Gr.frD {B : Nat} {w W : World} (g : Gr w W) : FrD B w W := g.mono (fun _ _ h => h.elim)
theorem FrN.frD {B : Nat} {w W : World} (g : FrN B w W) : FrD B w W := g.mono (fun k _ h => by
  obtain ⟨h1, cs, ty, fz, h2, h3⟩ := h
  exact ⟨h1, cs, ty, fz, h2, .inr h3⟩)
theorem FrD.trans {B : Nat} {u v w : World} (h : FrD B u v) (g : FrD B v w) : FrD B u w := by
  refine Keeps.trans h g (fun k hk ⟨hl, cs, ty, fz, e, ht⟩ => ?_)
  by_cases hi : IsD B u k
  · exact hi
  · exact ⟨hl, cs, ty, fz, (h.block k hk hi) ▸ e, ht⟩
theorem FrD.oth {B : Nat} {w W : World} (h : FrD B w W) {b ty : Nat} {c : Array Value} (hb : w.heap[b]? = some (.cells c ty)) (h0 : ty ≠ 220) (h1 : ty ≠ 264) (h2 : ty ≠ 329) (h3 : ty ≠ 4) (h4 : ty ≠ 2) : W.heap[b]? = some (.cells c ty) := by
  refine (h.block b (lt_of_heap hb) (fun q => ?_)).trans hb
  obtain ⟨-, cs, ty', fz, e, ht⟩ := q
  rw [hb] at e
  cases e
  rcases ht with e | e | e | e | e
  · exact h0 e
  · exact h1 e
  · exact h2 e
  · exact h3 e
  · exact h4 e
theorem FrD.low {B : Nat} {w W : World} (h : FrD B w W) {a : World} (g : Gr a w) (hB : a.heap.size ≤ B) : Gr a W := g.trans h (fun k hk q => by have := q.1; omega)
theorem take16 (B p n m t : Nat) (nu : Bool) (fo : Option Addr) (fc : Nat) (rows : Int) (wt : Int) (vo : Option Addr) (L vc : Nat) (bs : List Value) (lo : Option Addr) (lc : Nat) (xs : List Value) (vn : Bool) (x : Int) (xo : Option Addr) (xc : Nat) (W : World) (hp : W.heap[p]? = some (.cells (bdC nx nu fo fc n t rows) 220)) (h : Nd B W n m t nu wt vo L vc bs lo lc xs) (hB : B ≤ W.heap.size) (hBp : B ≤ p) (hL : L ≤ 4000) (hw : 0 ≤ wt ∧ wt ≤ 1000000) (hr : 0 ≤ rows ∧ rows ≤ 100000) :
    Calls Tryz.prog 125 #[.pointer (some ⟨p, 0, none⟩), .agg #[.bool vn, .int .i64 x, .string ⟨#[]⟩, .slice xo 0 xc]] W fun e w' => e = .returned (.int .i64 0) ∧ FrD B W w' ∧ w'.heap[p]? = some (.cells (bdC nx nu fo fc n t (rows + 1)) 220) ∧ ∃ vo' vc' lo' lc', Nd B w' n m t nu (wt + 16) vo' (L + 1) vc' (bs ++ [.bool !vn]) lo' lc' (xs ++ [.int .i64 x]) := by
  have hmf : ∀ (fn : Fn) (first cap : Array Value) (w : World), (Instr.makeFunc fn first cap).run Tryz.prog w = .ok (.func fn first cap) w := fun _ _ _ _ => rfl
  obtain ⟨A, hA⟩ : ∃ A, ((W.alloc (.cells #[.pointer (some ⟨p, 0, none⟩)] 188)).alloc (.cells #[.bool vn, .int .i64 x, .string ⟨#[]⟩, .slice xo 0 xc] 86)).alloc (.cells #[.int .i64 0] 24) = A := ⟨_, rfl⟩
  have gA : Gr W A := by rw [← hA]; exact ((gr_alloc W _).trans (gr_alloc _ _) (fun _ _ h => h)).trans (gr_alloc _ _) (fun _ _ h => h)
  have s1 : (W.alloc (.cells #[.pointer (some ⟨p, 0, none⟩)] 188)).heap.size = W.heap.size + 1 := by simp
  have s2 : ((W.alloc (.cells #[.pointer (some ⟨p, 0, none⟩)] 188)).alloc (.cells #[.bool vn, .int .i64 x, .string ⟨#[]⟩, .slice xo 0 xc] 86)).heap.size = W.heap.size + 1 + 1 := by simp
  have hb1 : A.heap[W.heap.size]? = some (.cells #[.pointer (some ⟨p, 0, none⟩)] 188) := by
    have e1 := heap_alloc_new W (.cells #[.pointer (some ⟨p, 0, none⟩)] 188)
    rw [← hA]
    exact ((((gr_alloc _ _).trans (gr_alloc _ _) (fun _ _ h => h)) : Gr (W.alloc (.cells #[.pointer (some ⟨p, 0, none⟩)] 188)) _).block _ (lt_of_heap e1) id).trans e1
  have hb2 : A.heap[W.heap.size + 1]? = some (.cells #[.bool vn, .int .i64 x, .string ⟨#[]⟩, .slice xo 0 xc] 86) := by
    have e2 := heap_alloc_new (W.alloc (.cells #[.pointer (some ⟨p, 0, none⟩)] 188)) (.cells #[.bool vn, .int .i64 x, .string ⟨#[]⟩, .slice xo 0 xc] 86)
    rw [s1] at e2
    rw [← hA]
    exact ((gr_alloc _ _).block _ (lt_of_heap e2) id).trans e2
  have hb3 : A.heap[W.heap.size + 1 + 1]? = some (.cells #[.int .i64 0] 24) := by
    have e3 := heap_alloc_new ((W.alloc (.cells #[.pointer (some ⟨p, 0, none⟩)] 188)).alloc (.cells #[.bool vn, .int .i64 x, .string ⟨#[]⟩, .slice xo 0 xc] 86)) (.cells #[.int .i64 0] 24)
    rw [s2] at e3
    rw [← hA]
    exact e3
  have hpA := (gA.block p (lt_of_heap hp) id).trans hp
  have hS : ∀ u : World, u.heap[W.heap.size]? = some (.cells #[.pointer (some ⟨p, 0, none⟩)] 188) → u.heap[W.heap.size + 1]? = some (.cells #[.bool vn, .int .i64 x, .string ⟨#[]⟩, .slice xo 0 xc] 86) → u.heap[p]? = some (.cells (bdC nx nu fo fc n t rows) 220) → u.cell? ⟨W.heap.size, 0, none⟩ = some (.pointer (some ⟨p, 0, none⟩)) ∧ u.cell? ⟨p, 7, none⟩ = some (.pointer (some ⟨n, 0, none⟩)) ∧ u.cell? ⟨W.heap.size + 1, 0, none⟩ = some (.bool vn) ∧ u.cell? ⟨W.heap.size + 1, 1, none⟩ = some (.int .i64 x) ∧ u.cell? ⟨W.heap.size + 1, 2, none⟩ = some (.string ⟨#[]⟩) ∧ u.cell? ⟨W.heap.size + 1, 3, none⟩ = some (.slice xo 0 xc) := fun u a1 a2 a3 => by
    obtain ⟨q0, q1, q2, q3⟩ := cell4 a2
    exact ⟨by simp [World.cell?, a1], by simp [World.cell?, a3, bdC], q0, q1, q2, q3⟩
  have HS0 := hidM (hS A.drew hb1 hb2 hpA)
  have HT := hidM (take33 B n m t nu wt vo L vc bs lo lc xs vn x xo xc A.drew ((h.gr gA).gr gr_drew) (Nat.le_trans hB gA.size) hL hw)
  have HAf : Hid (∀ w1, FrN B A.drew w1 → (w1.heap[W.heap.size]? = some (.cells #[.pointer (some ⟨p, 0, none⟩)] 188) ∧ w1.heap[W.heap.size + 1]? = some (.cells #[.bool vn, .int .i64 x, .string ⟨#[]⟩, .slice xo 0 xc] 86) ∧ w1.heap[p]? = some (.cells (bdC nx nu fo fc n t rows) 220)) ∧ w1.heap[W.heap.size + 1 + 1]? = some (.cells #[.int .i64 0] 24)) := fun w1 f => ⟨⟨f.oth hb1 (by decide) (by decide) (by decide) (by decide), f.oth hb2 (by decide) (by decide) (by decide) (by decide), f.oth hpA (by decide) (by decide) (by decide) (by decide)⟩, f.oth hb3 (by decide) (by decide) (by decide) (by decide)⟩
  have HSS := hidM hS
  have HG := hidM gA
  clear h hp hb1 hb2 hb3 hpA gA hS s1 s2
  go_enter_defers Tryz.func125, Tryz.ntmps125
  go_wp2_with fail
  go_region_held3 (fun w' => w'.cell? ⟨W.heap.size, 0, none⟩ = some (.pointer (some ⟨p, 0, none⟩)) ∧ w'.cell? ⟨p, 7, none⟩ = some (.pointer (some ⟨n, 0, none⟩)) ∧ w'.cell? ⟨W.heap.size + 1, 0, none⟩ = some (.bool vn) ∧ w'.cell? ⟨W.heap.size + 1, 1, none⟩ = some (.int .i64 x) ∧ w'.cell? ⟨W.heap.size + 1, 2, none⟩ = some (.string ⟨#[]⟩) ∧ w'.cell? ⟨W.heap.size + 1, 3, none⟩ = some (.slice xo 0 xc)) (first | with_reducible exact HS0.out | with_reducible exact HS1.out) ((go_at_call 150; refine HT.out.mono ?_; rintro e w1 ⟨rfl, hf, hn⟩; have HF := hidM hf; have HN := hidM hn; obtain ⟨⟨a1, a2, a3⟩, a4⟩ := HAf.out w1 hf; have HS1 := hidM (HSS.out w1 a1 a2 a3); have HB4 := hidM (And.intro a1 (And.intro a3 a4)); have y0 : w1.cell? ⟨W.heap.size + 1 + 1, 0, none⟩ = some (.int .i64 0) := (by simp [World.cell?, a4]); have zz := frz a4 0; clear hf hn a1 a2 a3 a4))
  go_wp2_with fail
  have g2 : Gr w1 (w1.setCell ⟨W.heap.size + 1 + 1, 0, none⟩ (.int .i64 0)) := same_set HB4.out.2.2 rfl
  generalize w1.setCell ⟨W.heap.size + 1 + 1, 0, none⟩ (.int .i64 0) = U at g2 ⊢
  obtain ⟨hb1, hb3, hb4⟩ := HB4.out
  obtain ⟨vo', vc', lo', lc', hnd⟩ := HN.out
  have hU1 := (g2.block _ (lt_of_heap hb1) id).trans hb1
  have hU3 := (g2.block _ (lt_of_heap hb3) id).trans hb3
  have hU4 := (g2.block _ (lt_of_heap hb4) id).trans hb4
  have hnU := hnd.gr g2
  refine leaves_cons (f := 147) (args := #[.pointer (some ⟨W.heap.size, 0, none⟩), .pointer (some ⟨W.heap.size + 1 + 1, 0, none⟩)]) (by simp) (by simp [go_sem]) ?_
  refine (take30 W.heap.size ⟨W.heap.size + 1 + 1, 0, none⟩ p n t nu fo fc rows U hr hU1 hU3 hnU.ht).mono ?_
  rintro e u' w' ⟨rfl, rfl, k, hp'⟩
  have h4' : w'.heap[W.heap.size + 1 + 1]? = some (.cells #[.int .i64 0] 24) := (k.block _ (lt_of_heap hU4) (fun e => by rw [e, hU3] at hU4; simp at hU4)).trans hU4
  have y4 : w'.cell? ⟨W.heap.size + 1 + 1, 0, none⟩ = some (.int .i64 0) := by simp [World.cell?, h4']
  have hoth : ∀ {b ty : Nat} {c : Array Value}, U.heap[b]? = some (.cells c ty) → ty ≠ 220 → w'.heap[b]? = some (.cells c ty) := fun hb ht => (k.block _ (lt_of_heap hb) (fun e => by subst e; rw [hU3] at hb; simp at hb; exact ht hb.2.symm)).trans hb
  have hrow : ∀ {e N : Nat} {v : Value} {ys : List Value}, U.ownsRow 0 e 1 v N ys → e ≠ 220 → w'.ownsRow 0 e 1 v N ys := fun hr he => row_kp hr fun q e2 => k.block q (own_lt hr q e2) (fun e3 => by subst e3; exact own_ne hU3 hr (Ne.symm he) e2)
  have hfr : FrD B W w' := (((Gr.frD HG.out).trans (Gr.frD gr_drew)).trans HF.out.frD).trans ((Gr.frD g2).trans (k.mono fun z hz e => by subst e; exact ⟨hBp, _, 220, _, hU3, .inl rfl⟩))
  refine ⟨.int .i64 0, ?_, rfl, hfr, hp', vo', vc', lo', lc', hoth hnU.hn (by decide), hoth hnU.hm (by decide), hoth hnU.ht (by decide), hrow hnU.rv (by decide), hrow hnU.rl (by decide), hnU.low, hnU.bv, hnU.bl⟩
  simp [results, Tryz.f125, go_sem, y4]
end Go.Proofs.YteggcdhibcjneaaGreatDoor.Kit
namespace Go.Proofs.YteggcdhibcjneaaGreatDoor.Kit
variable {nx : Bool}
open Go.RowKit Go.Shelf Go.Deep
open Go.Proofs.YteggcdhibcjneaaGreatDoor.Kd (Ans AnsV cell5 cell2)
set_option linter.unusedVariables false
set_option linter.unusedSimpArgs false
attribute [local go_sem] run_store_func

def C8 (nx : Bool) (u : World) (p b : Nat) (nu : Bool) (fo : Option Addr) (fc : Nat) (vn : Bool) (x : Int) (xo : Option Addr) (xc : Nat) : Prop := u.cell? ⟨p, 0, none⟩ = some (.string (nmB nx)) ∧ u.cell? ⟨p, 1, none⟩ = some (.bool nu) ∧ u.cell? ⟨p, 2, none⟩ = some (.int .i64 3) ∧ u.cell? ⟨p, 3, none⟩ = some (.int .i64 0) ∧ u.cell? ⟨p, 4, none⟩ = some (.int .i64 0) ∧ u.cell? ⟨p, 5, none⟩ = some (.int .i64 0) ∧ u.cell? ⟨p, 6, none⟩ = some (.slice fo 0 fc) ∧ u.cell? ⟨b, 0, none⟩ = some (.bool vn) ∧ u.cell? ⟨b, 1, none⟩ = some (.int .i64 x) ∧ u.cell? ⟨b, 2, none⟩ = some (.string ⟨#[]⟩) ∧ u.cell? ⟨b, 3, none⟩ = some (.slice xo 0 xc)
theorem c8 {u : World} {p b : Nat} {nu : Bool} {fo : Option Addr} {fc n t : Nat} {rows : Int} {vn : Bool} {x : Int} {xo : Option Addr} {xc : Nat} (hp : u.heap[p]? = some (.cells (bdC nx nu fo fc n t rows) 220)) (hb : u.heap[b]? = some (.cells #[.bool vn, .int .i64 x, .string ⟨#[]⟩, .slice xo 0 xc] 86)) : C8 nx u p b nu fo fc vn x xo xc := by
  obtain ⟨q0, q1, q2, q3⟩ := cell4 hb
  refine ⟨?_, ?_, ?_, ?_, ?_, ?_, ?_, q0, q1, q2, q3⟩ <;> simp [World.cell?, hp, bdC]
/-- what add answers -/
def AddA (nx : Bool) (B : Nat) (W : World) (p n m t : Nat) (nu : Bool) (fo : Option Addr) (fc : Nat) (rows wt : Int) (L : Nat) (bs xs : List Value) (vn : Bool) (x : Int) (e : Ending) (w' : World) : Prop :=
  if fitN nu 3 vn x = true then e = .returned (.int .i64 0) ∧ FrD B W w' ∧ w'.heap[p]? = some (.cells (bdC nx nu fo fc n t (rows + 1)) 220) ∧ ∃ vo' vc' lo' lc', Nd B w' n m t nu (wt + 16) vo' (L + 1) vc' (bs ++ [.bool !vn]) lo' lc' (xs ++ [.int .i64 x])
  else e = .returned (.int .i64 7) ∧ Gr W w'
theorem add8 (B p n m t : Nat) (nu : Bool) (fo : Option Addr) (fc : Nat) (rows : Int) (wt : Int) (vo : Option Addr) (L vc : Nat) (bs : List Value) (lo : Option Addr) (lc : Nat) (xs : List Value) (vn : Bool) (x : Int) (xo : Option Addr) (xc : Nat) (W : World) (hT : Tab W) (hp : W.heap[p]? = some (.cells (bdC nx nu fo fc n t rows) 220)) (h : Nd B W n m t nu wt vo L vc bs lo lc xs) (hB : B ≤ W.heap.size) (hBp : B ≤ p) (hL : L ≤ 4000) (hw : 0 ≤ wt ∧ wt ≤ 1000000) (hr : 0 ≤ rows ∧ rows ≤ 100000) :
    Calls Tryz.prog 103 #[.pointer (some ⟨p, 0, none⟩), .agg #[.bool vn, .int .i64 x, .string ⟨#[]⟩, .slice xo 0 xc]] W (AddA nx B W p n m t nu fo fc rows wt L bs xs vn x) := by
  obtain ⟨A, hA⟩ : ∃ A, W.alloc (.cells #[.bool vn, .int .i64 x, .string ⟨#[]⟩, .slice xo 0 xc] 86) = A := ⟨_, rfl⟩
  have gA : Gr W A := by rw [← hA]; exact gr_alloc W _
  have hb : A.heap[W.heap.size]? = some (.cells #[.bool vn, .int .i64 x, .string ⟨#[]⟩, .slice xo 0 xc] 86) := by rw [← hA]; exact heap_alloc_new W _
  have hpA := (gA.block p (lt_of_heap hp) id).trans hp
  have HS0 : Hid (C8 nx A.drew p W.heap.size nu fo fc vn x xo xc) := c8 hpA hb
  have HF := hidM (leaf_fits (w := W) (ao := fo) (ca := fc) hT (allR (nx := nx) nu) (by decide) vn x xo xc A.drew (gA.trans gr_drew (fun _ _ h => h)))
  have HK : Hid (∀ w1, Gr A.drew w1 → C8 nx w1 p W.heap.size nu fo fc vn x xo xc ∧ Calls Tryz.prog 125 #[.pointer (some ⟨p, 0, none⟩), .agg #[.bool vn, .int .i64 x, .string ⟨#[]⟩, .slice xo 0 xc]] w1 fun e w' => e = .returned (.int .i64 0) ∧ FrD B W w' ∧ w'.heap[p]? = some (.cells (bdC nx nu fo fc n t (rows + 1)) 220) ∧ ∃ vo' vc' lo' lc', Nd B w' n m t nu (wt + 16) vo' (L + 1) vc' (bs ++ [.bool !vn]) lo' lc' (xs ++ [.int .i64 x])) := fun w1 g => by
    have g1 : Gr A w1 := Keeps.trans gr_drew g (fun _ _ h => h)
    have g2 : Gr W w1 := gA.trans g1 (fun _ _ h => h)
    have hp1 := (g1.block p (lt_of_heap hpA) id).trans hpA
    refine ⟨c8 hp1 ((g1.block _ (lt_of_heap hb) id).trans hb), ?_⟩
    refine (take16 B p n m t nu fo fc rows wt vo L vc bs lo lc xs vn x xo xc w1 hp1 (h.gr g2) (Nat.le_trans hB g2.size) hBp hL hw hr).mono ?_
    rintro e w' ⟨rfl, hf, hp', hn⟩
    exact ⟨rfl, (Gr.frD g2).trans hf, hp', hn⟩
  have HG := hidM gA
  obtain ⟨fb, hfb⟩ : ∃ fb, fitE true (fitN nu 3 vn x) = fb := ⟨_, rfl⟩
  rw [hfb] at HF
  have HFB := hidM hfb
  unfold C8 at HS0 HK
  by_cases hfit : fitN nu 3 vn x = true
  · have hz : fb = 0 := by rw [← hfb, hfit]; rfl
    subst hz
    have HFit := hidM hfit
    clear h hp hb hpA gA hT hfit hfb HFB
    go_enter Tryz.func103, Tryz.ntmps103
    go_wp2_with fail
    go_region_held3 (fun w' => w'.cell? ⟨p, 0, none⟩ = some (.string (nmB nx)) ∧ w'.cell? ⟨p, 1, none⟩ = some (.bool nu) ∧ w'.cell? ⟨p, 2, none⟩ = some (.int .i64 3) ∧ w'.cell? ⟨p, 3, none⟩ = some (.int .i64 0) ∧ w'.cell? ⟨p, 4, none⟩ = some (.int .i64 0) ∧ w'.cell? ⟨p, 5, none⟩ = some (.int .i64 0) ∧ w'.cell? ⟨p, 6, none⟩ = some (.slice fo 0 fc) ∧ w'.cell? ⟨W.heap.size, 0, none⟩ = some (.bool vn) ∧ w'.cell? ⟨W.heap.size, 1, none⟩ = some (.int .i64 x) ∧ w'.cell? ⟨W.heap.size, 2, none⟩ = some (.string ⟨#[]⟩) ∧ w'.cell? ⟨W.heap.size, 3, none⟩ = some (.slice xo 0 xc)) (first | with_reducible exact HS0.out | with_reducible exact HS1.out) ((go_at_call 124; refine HF.out.mono ?_; rintro e w1 ⟨rfl, g1⟩; have HG1 := hidM g1; obtain ⟨a1, a2⟩ := HK.out w1 g1; have HS1 := hidM a1; have HC := hidM a2; obtain ⟨-, -, -, -, -, -, -, y0, y1, y2, y3⟩ := a1; clear g1 a2))
    go_wp2_with (go_at_call 125; refine HC.out.mono ?_; rintro e w2 ⟨rfl, hq⟩; have HQ := hidM hq; clear hq)
    go_ret
    unfold AddA
    rw [if_pos HFit.out]
    exact ⟨rfl, HQ.out⟩
  · have hz : fb = 7 := by
      rw [← hfb]
      have : fitN nu 3 vn x = false := by simpa using hfit
      rw [this]
      rfl
    subst hz
    have HFit := hidM hfit
    clear h hp hb hpA gA hT hfit hfb HFB
    go_enter Tryz.func103, Tryz.ntmps103
    go_wp2_with fail
    go_region_held3 (fun w' => w'.cell? ⟨p, 0, none⟩ = some (.string (nmB nx)) ∧ w'.cell? ⟨p, 1, none⟩ = some (.bool nu) ∧ w'.cell? ⟨p, 2, none⟩ = some (.int .i64 3) ∧ w'.cell? ⟨p, 3, none⟩ = some (.int .i64 0) ∧ w'.cell? ⟨p, 4, none⟩ = some (.int .i64 0) ∧ w'.cell? ⟨p, 5, none⟩ = some (.int .i64 0) ∧ w'.cell? ⟨p, 6, none⟩ = some (.slice fo 0 fc) ∧ w'.cell? ⟨W.heap.size, 0, none⟩ = some (.bool vn) ∧ w'.cell? ⟨W.heap.size, 1, none⟩ = some (.int .i64 x) ∧ w'.cell? ⟨W.heap.size, 2, none⟩ = some (.string ⟨#[]⟩) ∧ w'.cell? ⟨W.heap.size, 3, none⟩ = some (.slice xo 0 xc)) (first | with_reducible exact HS0.out | with_reducible exact HS1.out) ((go_at_call 124; refine HF.out.mono ?_; rintro e w1 ⟨rfl, g1⟩; have HG1 := hidM g1; obtain ⟨a1, a2⟩ := HK.out w1 g1; have HS1 := hidM a1; have HC := hidM a2; obtain ⟨-, -, -, -, -, -, -, y0, y1, y2, y3⟩ := a1; clear g1 a2))
    go_wp2_with fail
    go_ret
    unfold AddA
    rw [if_neg HFit.out]
    exact ⟨rfl, (HG.out.trans gr_drew (fun _ _ h => h)).trans HG1.out (fun _ _ h => h)⟩
end Go.Proofs.YteggcdhibcjneaaGreatDoor.Kit
