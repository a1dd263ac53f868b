import Derived.Test.YtegjpmodleigeaaGreatDoorBQ
import Derived.Recover
import Derived.Defers
import Derived.Test.YtegjpmodleigeaaGreatDoorKit
import Derived.Maps.AppendAt
import Derived.Deep.RegionHeld3
import Derived.Shelf.Abstract
import Derived.Shelf.RegionOpen
import Derived.Test.YtegjpmodleigeaaGreatDoorProg
set_option maxRecDepth 100000
set_option maxHeartbeats 4000000
namespace Go.Proofs.YtegjpmodleigeaaGreatDoor.Kit
open Go.RowKit Go.Shelf Go.Deep
open Go.Proofs.YtegjpmodleigeaaGreatDoor.Kd (Ans AnsV cell5 cell2)
set_option linter.unusedVariables false
set_option linter.unusedSimpArgs false
attribute [local go_sem] run_store_func
theorem wp_hid {P : Program} {c : Code} {Q : Exit → Act → World → Prop} {a : Act} {w : World} (h : c.wp P (fun e a w => Hid (Q e a w)) a w) : c.wp P Q a w := Code.wp_mono (fun e a w h => h.out) h
theorem same_set {W : World} {b ty j : Nat} {c : Array Value} {v : Value} (h : W.heap[b]? = some (.cells c ty)) (hv : c.setIfInBounds j v = c) : Gr W (W.setCell ⟨b, j, none⟩ v) := by
  have k : Keeps W (W.setCell ⟨b, j, none⟩ v) (fun z => z = b) := Keeps.setCell (S := fun z => z = b) (p := ⟨b, j, none⟩) (Keeps.refl W _) (fun _ => rfl) _
  refine ⟨k.os, k.tape, k.output, k.size, fun z hz _ => ?_⟩
  by_cases e : z = b
  · subst e
    rw [heap_setCell_same W z j _ _ v h, h, hv]
  · exact k.block z hz e
/-- the builder's cells -/
def bdC (nu : Bool) (fo : Option Addr) (fc n t : Nat) (rows : Int) : Array Value := #[.string nmA, .bool nu, .int .i64 3, .int .i64 0, .int .i64 0, .int .i64 0, .slice fo 0 fc, .pointer (some ⟨n, 0, none⟩), .pointer (some ⟨t, 0, none⟩), .int .i64 rows]
theorem take30 (kk : Int) (st : Value) (bb : Nat) (r : Addr) (p n t : Nat) (nu : Bool) (fo : Option Addr) (fc : Nat) (rows : Int) (w : World) (hr : 0 ≤ rows ∧ rows ≤ 100000) (hb : w.heap[bb]? = some (.cells #[.pointer (some ⟨p, 0, none⟩)] 82)) (hp : w.heap[p]? = some (.cells (bdC nu fo fc n t rows) 121)) (ht : w.heap[t]? = some (.cells #[.int .i64 kk, st] 117)) :
    CallsD Tryz.prog 60 #[.pointer (some ⟨bb, 0, none⟩), .pointer (some r)] .returning w fun e u' w' => e = .returned (.tuple #[]) ∧ u' = .returning ∧ Keeps w w' (fun z => z = p ∨ z = t) ∧ w'.heap[p]? = some (.cells (bdC nu fo fc n t (rows + 1)) 121) ∧ w'.heap[t]? = some (.cells #[.int .i64 kk, .slice none 0 0] 117) := by
  have q0 : w.cell? ⟨bb, 0, none⟩ = some (.pointer (some ⟨p, 0, none⟩)) := by simp [World.cell?, hb]
  have p9 : w.cell? ⟨p, 9, none⟩ = some (.int .i64 rows) := by simp [World.cell?, hp, bdC]
  have z9 := frz hp 9
  have hwr : IntKind.i64.wrap (rows + 1) = rows + 1 := by rw [IntKind.wrap_i64]; omega
  obtain ⟨U, hU⟩ : ∃ U, w.setCell ⟨p, 9, none⟩ (.int .i64 (rows + 1)) = U := ⟨_, rfl⟩
  have kU : Keeps w U (fun z => z = p) := by rw [← hU]; exact Keeps.setCell (S := fun z => z = p) (p := ⟨p, 9, none⟩) (Keeps.refl w _) (fun _ => rfl) _
  have hpU : U.heap[p]? = some (.cells (bdC nu fo fc n t (rows + 1)) 121) := by rw [← hU, heap_setCell_same w p 9 _ _ _ hp]; rfl
  have hbp : bb ≠ p := fun e => by rw [e, hp] at hb; simp at hb
  have htp : t ≠ p := fun e => by rw [e, hp] at ht; simp at ht
  have q0U : U.cell? ⟨bb, 0, none⟩ = some (.pointer (some ⟨p, 0, none⟩)) := kU.cell' q0 hbp
  have p8U : U.cell? ⟨p, 8, none⟩ = some (.pointer (some ⟨t, 0, none⟩)) := by simp [World.cell?, hpU, bdC]
  have HE := hidM (end62 t (.int .i64 kk) st U ((kU.block t (lt_of_heap ht) htp).trans ht))
  have HK := hidM kU
  have HP := hidM hpU
  have HTP := hidM htp
  clear hb hp ht kU hpU hbp htp hr
  refine callsD_of_wpS Tryz.func60 rfl fun c₀ cs hu => ?_
  apply wpS_seq
  apply wpS_seq
  apply wpS_region
  simp [wpOpsS, go_sem, recoverD, hu, Tryz.ntmps60, Exit.thenS]
  have HHU := hidM hu
  clear hu
  have htm : (#[Value.pointer (some ⟨bb, 0, none⟩), Value.pointer (some r)] ++ (Array.replicate 28 undef).setIfInBounds 3 Value.nilIface : Array Value) = #[Value.pointer (some ⟨bb, 0, none⟩), .pointer (some r), undef, undef, undef, .nilIface, undef, undef, undef, undef, undef, undef, undef, undef, undef, undef, undef, undef, undef, undef, undef, undef, undef, undef, undef, undef, undef, undef, undef, undef] := by kernel_rfl
  rw [htm]
  clear htm
  refine wpS_of_wp ?_
  refine wp_hid ?_
  go_wp2_with fail
  unfold Hid
  show Code.wpS _ _ _ _ _ _
  refine wpS_of_wp ?_
  refine wp_hid ?_
  go_wp2_with (go_at_call 62; refine HE.out.mono ?_; rintro e w2 ⟨rfl, g, gt⟩; have HG := hidM (And.intro g gt); clear g gt)
  unfold Hid
  have hk : Keeps w w2 (fun z => z = p ∨ z = t) := (HK.out.mono (fun _ _ h => Or.inl h)).trans (HG.out.1.mono (fun _ _ h => Or.inr h)) (fun _ _ h => h)
  have hp : w2.heap[p]? = some (.cells (bdC nu fo fc n t (rows + 1)) 121) := (HG.out.1.block p (lt_of_heap HP.out) (fun e => HTP.out e.symm)).trans HP.out
  have ht2 := HG.out.2
  have hu := HHU.out
  cases c₀
  simp_all [bodyPostS, results, Tryz.results60]
def IsD (B : Nat) (w : World) (k : Nat) : Prop := B ≤ k ∧ ∃ cs ty fz, w.heap[k]? = some (.cells cs ty fz) ∧ (ty = 121 ∨ ty = 151 ∨ ty = 262 ∨ ty = 4 ∨ ty = 2 ∨ ty = 117)
def FrD (B : Nat) (w W : World) : Prop := Keeps w W (IsD B w)
theorem Gr.frD {B : Nat} {w W : World} (g : Gr w W) : FrD B w W := g.mono (fun _ _ h => h.elim)
theorem FrN.frD {B : Nat} {w W : World} (g : FrN B w W) : FrD B w W := g.mono (fun k _ h => by
  obtain ⟨h1, cs, ty, fz, h2, h3⟩ := h
  exact ⟨h1, cs, ty, fz, h2, .inr h3⟩)
theorem FrD.trans {B : Nat} {u v w : World} (h : FrD B u v) (g : FrD B v w) : FrD B u w := by
  refine Keeps.trans h g (fun k hk ⟨hl, cs, ty, fz, e, ht⟩ => ?_)
  by_cases hi : IsD B u k
  · exact hi
  · exact ⟨hl, cs, ty, fz, (h.block k hk hi) ▸ e, ht⟩
theorem FrD.oth {B : Nat} {w W : World} (h : FrD B w W) {b ty : Nat} {c : Array Value} (hb : w.heap[b]? = some (.cells c ty)) (h0 : ty ≠ 121) (h1 : ty ≠ 151) (h2 : ty ≠ 262) (h3 : ty ≠ 4) (h4 : ty ≠ 2) (h5 : ty ≠ 117) : W.heap[b]? = some (.cells c ty) := by
  refine (h.block b (lt_of_heap hb) (fun q => ?_)).trans hb
  obtain ⟨-, cs, ty', fz, e, ht⟩ := q
  rw [hb] at e
  cases e
  rcases ht with e | e | e | e | e | e
  · exact h0 e
  · exact h1 e
  · exact h2 e
  · exact h3 e
  · exact h4 e
  · exact h5 e
theorem FrD.low {B : Nat} {w W : World} (h : FrD B w W) {a : World} (g : Gr a w) (hB : a.heap.size ≤ B) : Gr a W := g.trans h (fun k hk q => by have := q.1; omega)
theorem take16 (B p n m t : Nat) (s kk : Int) (hsk : s ≠ kk) (nu : Bool) (fo : Option Addr) (fc : Nat) (rows : Int) (wt : Int) (vo : Option Addr) (L vc : Nat) (bs : List Value) (lo : Option Addr) (lc : Nat) (xs : List Value) (vn : Bool) (x : Int) (xo : Option Addr) (xc : Nat) (W : World) (hp : W.heap[p]? = some (.cells (bdC nu fo fc n t rows) 121)) (h : Nd B W n m t s kk (.slice none 0 0) nu wt vo L vc bs lo lc xs) (hB : B ≤ W.heap.size) (hBp : B ≤ p) (hL : L ≤ 4000) (hw : 0 ≤ wt ∧ wt ≤ 1000000) (hr : 0 ≤ rows ∧ rows ≤ 100000) :
    Calls Tryz.prog 40 #[.pointer (some ⟨p, 0, none⟩), .agg #[.bool vn, .int .i64 x, .string ⟨#[]⟩, .slice xo 0 xc]] W fun e w' => e = .returned (.int .i64 0) ∧ FrD B W w' ∧ w'.heap[p]? = some (.cells (bdC nu fo fc n t (rows + 1)) 121) ∧ ∃ vo' vc' lo' lc', Nd B w' n m t kk kk (.slice none 0 0) nu (wt + 16) vo' (L + 1) vc' (bs ++ [.bool !vn]) lo' lc' (xs ++ [.int .i64 x]) := by
  have hmf : ∀ (fn : Fn) (first cap : Array Value) (w : World), (Instr.makeFunc fn first cap).run Tryz.prog w = .ok (.func fn first cap) w := fun _ _ _ _ => rfl
  obtain ⟨A, hA⟩ : ∃ A, ((W.alloc (.cells #[.pointer (some ⟨p, 0, none⟩)] 82)).alloc (.cells #[.bool vn, .int .i64 x, .string ⟨#[]⟩, .slice xo 0 xc] 88)).alloc (.cells #[.int .i64 0] 33) = A := ⟨_, rfl⟩
  have gA : Gr W A := by rw [← hA]; exact ((gr_alloc W _).trans (gr_alloc _ _) (fun _ _ h => h)).trans (gr_alloc _ _) (fun _ _ h => h)
  have s1 : (W.alloc (.cells #[.pointer (some ⟨p, 0, none⟩)] 82)).heap.size = W.heap.size + 1 := by simp
  have s2 : ((W.alloc (.cells #[.pointer (some ⟨p, 0, none⟩)] 82)).alloc (.cells #[.bool vn, .int .i64 x, .string ⟨#[]⟩, .slice xo 0 xc] 88)).heap.size = W.heap.size + 1 + 1 := by simp
  have hb1 : A.heap[W.heap.size]? = some (.cells #[.pointer (some ⟨p, 0, none⟩)] 82) := by
    have e1 := heap_alloc_new W (.cells #[.pointer (some ⟨p, 0, none⟩)] 82)
    rw [← hA]
    exact ((((gr_alloc _ _).trans (gr_alloc _ _) (fun _ _ h => h)) : Gr (W.alloc (.cells #[.pointer (some ⟨p, 0, none⟩)] 82)) _).block _ (lt_of_heap e1) id).trans e1
  have hb2 : A.heap[W.heap.size + 1]? = some (.cells #[.bool vn, .int .i64 x, .string ⟨#[]⟩, .slice xo 0 xc] 88) := by
    have e2 := heap_alloc_new (W.alloc (.cells #[.pointer (some ⟨p, 0, none⟩)] 82)) (.cells #[.bool vn, .int .i64 x, .string ⟨#[]⟩, .slice xo 0 xc] 88)
    rw [s1] at e2
    rw [← hA]
    exact ((gr_alloc _ _).block _ (lt_of_heap e2) id).trans e2
  have hb3 : A.heap[W.heap.size + 1 + 1]? = some (.cells #[.int .i64 0] 33) := by
    have e3 := heap_alloc_new ((W.alloc (.cells #[.pointer (some ⟨p, 0, none⟩)] 82)).alloc (.cells #[.bool vn, .int .i64 x, .string ⟨#[]⟩, .slice xo 0 xc] 88)) (.cells #[.int .i64 0] 33)
    rw [s2] at e3
    rw [← hA]
    exact e3
  have hpA := (gA.block p (lt_of_heap hp) id).trans hp
  have hS : ∀ u : World, u.heap[W.heap.size]? = some (.cells #[.pointer (some ⟨p, 0, none⟩)] 82) → u.heap[W.heap.size + 1]? = some (.cells #[.bool vn, .int .i64 x, .string ⟨#[]⟩, .slice xo 0 xc] 88) → u.heap[p]? = some (.cells (bdC nu fo fc n t rows) 121) → u.cell? ⟨W.heap.size, 0, none⟩ = some (.pointer (some ⟨p, 0, none⟩)) ∧ u.cell? ⟨p, 7, none⟩ = some (.pointer (some ⟨n, 0, none⟩)) ∧ u.cell? ⟨W.heap.size + 1, 0, none⟩ = some (.bool vn) ∧ u.cell? ⟨W.heap.size + 1, 1, none⟩ = some (.int .i64 x) ∧ u.cell? ⟨W.heap.size + 1, 2, none⟩ = some (.string ⟨#[]⟩) ∧ u.cell? ⟨W.heap.size + 1, 3, none⟩ = some (.slice xo 0 xc) := fun u a1 a2 a3 => by
    obtain ⟨q0, q1, q2, q3⟩ := cell4 a2
    exact ⟨by simp [World.cell?, a1], by simp [World.cell?, a3, bdC], q0, q1, q2, q3⟩
  have HS0 := hidM (hS A.drew hb1 hb2 hpA)
  have HT := hidM (take33 B n m t s kk hsk nu wt vo L vc bs lo lc xs vn x xo xc A.drew ((h.gr gA).gr gr_drew) (Nat.le_trans hB gA.size) hL hw)
  have HAf : Hid (∀ w1, FrN B A.drew w1 → (w1.heap[W.heap.size]? = some (.cells #[.pointer (some ⟨p, 0, none⟩)] 82) ∧ w1.heap[W.heap.size + 1]? = some (.cells #[.bool vn, .int .i64 x, .string ⟨#[]⟩, .slice xo 0 xc] 88) ∧ w1.heap[p]? = some (.cells (bdC nu fo fc n t rows) 121)) ∧ w1.heap[W.heap.size + 1 + 1]? = some (.cells #[.int .i64 0] 33)) := fun w1 f => ⟨⟨f.oth hb1 (by decide) (by decide) (by decide) (by decide) (by decide), f.oth hb2 (by decide) (by decide) (by decide) (by decide) (by decide), f.oth hpA (by decide) (by decide) (by decide) (by decide) (by decide)⟩, f.oth hb3 (by decide) (by decide) (by decide) (by decide) (by decide)⟩
  have HSS := hidM hS
  have HG := hidM gA
  clear h hp hb1 hb2 hb3 hpA gA hS s1 s2
  go_enter_defers Tryz.func40, Tryz.ntmps40
  go_wp2_with fail
  go_region_held3 (fun w' => w'.cell? ⟨W.heap.size, 0, none⟩ = some (.pointer (some ⟨p, 0, none⟩)) ∧ w'.cell? ⟨p, 7, none⟩ = some (.pointer (some ⟨n, 0, none⟩)) ∧ w'.cell? ⟨W.heap.size + 1, 0, none⟩ = some (.bool vn) ∧ w'.cell? ⟨W.heap.size + 1, 1, none⟩ = some (.int .i64 x) ∧ w'.cell? ⟨W.heap.size + 1, 2, none⟩ = some (.string ⟨#[]⟩) ∧ w'.cell? ⟨W.heap.size + 1, 3, none⟩ = some (.slice xo 0 xc)) (first | with_reducible exact HS0.out | with_reducible exact HS1.out) ((go_at_call 63; refine HT.out.mono ?_; rintro e w1 ⟨rfl, hf, hn⟩; have HF := hidM hf; have HN := hidM hn; obtain ⟨⟨a1, a2, a3⟩, a4⟩ := HAf.out w1 hf; have HS1 := hidM (HSS.out w1 a1 a2 a3); have HB4 := hidM (And.intro a1 (And.intro a3 a4)); have y0 : w1.cell? ⟨W.heap.size + 1 + 1, 0, none⟩ = some (.int .i64 0) := (by simp [World.cell?, a4]); have zz := frz a4 0; clear hf hn a1 a2 a3 a4))
  go_wp2_with fail
  have g2 : Gr w1 (w1.setCell ⟨W.heap.size + 1 + 1, 0, none⟩ (.int .i64 0)) := same_set HB4.out.2.2 rfl
  generalize w1.setCell ⟨W.heap.size + 1 + 1, 0, none⟩ (.int .i64 0) = U at g2 ⊢
  obtain ⟨hb1, hb3, hb4⟩ := HB4.out
  obtain ⟨st', vo', vc', lo', lc', hnd⟩ := HN.out
  have hU1 := (g2.block _ (lt_of_heap hb1) id).trans hb1
  have hU3 := (g2.block _ (lt_of_heap hb3) id).trans hb3
  have hU4 := (g2.block _ (lt_of_heap hb4) id).trans hb4
  have hnU := hnd.gr g2
  refine leaves_cons (f := 60) (args := #[.pointer (some ⟨W.heap.size, 0, none⟩), .pointer (some ⟨W.heap.size + 1 + 1, 0, none⟩)]) (by simp) (by simp [go_sem]) ?_
  refine (take30 kk st' W.heap.size ⟨W.heap.size + 1 + 1, 0, none⟩ p n t nu fo fc rows U hr hU1 hU3 hnU.ht).mono ?_
  rintro e u' w' ⟨rfl, rfl, k, hp', ht'⟩
  have hUt := hnU.ht
  have h4' : w'.heap[W.heap.size + 1 + 1]? = some (.cells #[.int .i64 0] 33) := (k.block _ (lt_of_heap hU4) (fun e => by rcases e with e | e <;> rw [e] at hU4 <;> simp_all)).trans hU4
  have y4 : w'.cell? ⟨W.heap.size + 1 + 1, 0, none⟩ = some (.int .i64 0) := by simp [World.cell?, h4']
  have hoth : ∀ {b ty : Nat} {c : Array Value}, U.heap[b]? = some (.cells c ty) → ty ≠ 121 → ty ≠ 117 → w'.heap[b]? = some (.cells c ty) := fun hb ht h7 => (k.block _ (lt_of_heap hb) (fun e => by
    rcases e with rfl | rfl
    · rw [hU3] at hb; simp at hb; exact ht hb.2.symm
    · rw [hUt] at hb; simp at hb; exact h7 hb.2.symm)).trans hb
  have hrow : ∀ {e N : Nat} {v : Value} {ys : List Value}, U.ownsRow 0 e 1 v N ys → e ≠ 121 → e ≠ 117 → w'.ownsRow 0 e 1 v N ys := fun hr he h7 => row_kp hr fun q e2 => k.block q (own_lt hr q e2) (fun e3 => by
    rcases e3 with rfl | rfl
    · exact own_ne hU3 hr (Ne.symm he) e2
    · exact own_ne hUt hr (Ne.symm h7) e2)
  have hfr : FrD B W w' := (((Gr.frD HG.out).trans (Gr.frD gr_drew)).trans HF.out.frD).trans ((Gr.frD g2).trans (k.mono fun z hz e => by
    rcases e with rfl | rfl
    · exact ⟨hBp, _, 121, _, hU3, .inl rfl⟩
    · exact ⟨hnU.low.2.2, _, 117, _, hUt, .inr (.inr (.inr (.inr (.inr rfl))))⟩))
  refine ⟨.int .i64 0, ?_, rfl, hfr, hp', vo', vc', lo', lc', hoth hnU.hn (by decide) (by decide), hoth hnU.hm (by decide) (by decide), ht', hrow hnU.rv (by decide) (by decide), hrow hnU.rl (by decide) (by decide), hnU.low, hnU.bv, hnU.bl⟩
  simp [results, Tryz.f40, go_sem, y4]
def C8 (u : World) (p b : Nat) (nu : Bool) (fo : Option Addr) (fc : Nat) (vn : Bool) (x : Int) (xo : Option Addr) (xc : Nat) : Prop := u.cell? ⟨p, 0, none⟩ = some (.string nmA) ∧ u.cell? ⟨p, 1, none⟩ = some (.bool nu) ∧ u.cell? ⟨p, 2, none⟩ = some (.int .i64 3) ∧ u.cell? ⟨p, 3, none⟩ = some (.int .i64 0) ∧ u.cell? ⟨p, 4, none⟩ = some (.int .i64 0) ∧ u.cell? ⟨p, 5, none⟩ = some (.int .i64 0) ∧ u.cell? ⟨p, 6, none⟩ = some (.slice fo 0 fc) ∧ u.cell? ⟨b, 0, none⟩ = some (.bool vn) ∧ u.cell? ⟨b, 1, none⟩ = some (.int .i64 x) ∧ u.cell? ⟨b, 2, none⟩ = some (.string ⟨#[]⟩) ∧ u.cell? ⟨b, 3, none⟩ = some (.slice xo 0 xc)
theorem c8 {u : World} {p b : Nat} {nu : Bool} {fo : Option Addr} {fc n t : Nat} {rows : Int} {vn : Bool} {x : Int} {xo : Option Addr} {xc : Nat} (hp : u.heap[p]? = some (.cells (bdC nu fo fc n t rows) 121)) (hb : u.heap[b]? = some (.cells #[.bool vn, .int .i64 x, .string ⟨#[]⟩, .slice xo 0 xc] 88)) : C8 u p b nu fo fc vn x xo xc := by
  obtain ⟨q0, q1, q2, q3⟩ := cell4 hb
  refine ⟨?_, ?_, ?_, ?_, ?_, ?_, ?_, q0, q1, q2, q3⟩ <;> simp [World.cell?, hp, bdC]
end Go.Proofs.YtegjpmodleigeaaGreatDoor.Kit
namespace Go.Proofs.YtegjpmodleigeaaGreatDoor.Ink
open Go.Proofs.YtegjpmodleigeaaGreatDoor.Kit
open Go.RowKit Go.Shelf Go.Deep
set_option linter.unusedVariables false
abbrev Gr (w w' : World) : Prop := Keeps w w' (fun _ => False)
theorem own_kp {W W' : World} {t : Nat} {v : Value} {n : Nat} {xs : List Value} (h : W.ownsRow 0 t 1 v n xs) (e : ∀ g, v.ownBlock = some g → W'.heap[g]? = W.heap[g]?) : W'.ownsRow 0 t 1 v n xs := by
  refine ⟨h.1, h.2.imp id ?_⟩
  rintro ⟨g, cap, cur, rfl, h0, hg, r⟩
  exact ⟨g, cap, cur, rfl, h0, (e g rfl).trans hg, r⟩
theorem own_lt {w : World} {t s : Nat} {v : Value} {n : Nat} {xs : List Value} (h : w.ownsRow 0 t s v n xs) (g : Nat) (e : v.ownBlock = some g) : g < w.heap.size := by
  rcases h.2 with ⟨rfl, _⟩ | ⟨g', cap, cur, rfl, _, hgg, _⟩
  · simp [Value.ownBlock] at e
  · simp [Value.ownBlock] at e
    subst e
    exact (Array.getElem?_eq_some_iff.1 hgg).1
/-- the field's own box -/
theorem beqF {a b : Int} (h : ¬ a = b) : (a == b) = false := by simpa using h
theorem gr_alloc (w : World) (o : Obj) : Gr w (w.alloc o) := (Keeps.refl w _).alloc o
theorem hidM {p : Prop} (h : p) : Hid p := h
theorem lt_of_heap {W : World} {B : Nat} {o : Obj} (h : W.heap[B]? = some o) : B < W.heap.size := (Array.getElem?_eq_some_iff.1 h).1
theorem frz {W : World} {B t : Nat} {c : Array Value} (h : W.heap[B]? = some (.cells c t)) (j : Nat) : W.frozen? ⟨B, j, none⟩ = false := by simp [World.frozen?, h]
theorem ce2 {W : World} {B t : Nat} {x y : Value} (h : W.heap[B]? = some (.cells #[x, y] t)) : W.cell? ⟨B, 0, none⟩ = some x ∧ W.cell? ⟨B, 1, none⟩ = some y := by simp [World.cell?, h]
theorem ce3 {W : World} {B t : Nat} {x y z : Value} (h : W.heap[B]? = some (.cells #[x, y, z] t)) : W.cell? ⟨B, 0, none⟩ = some x ∧ W.cell? ⟨B, 1, none⟩ = some y ∧ W.cell? ⟨B, 2, none⟩ = some z := by simp [World.cell?, h]
theorem ce1 {W : World} {B t : Nat} {x : Value} (h : W.heap[B]? = some (.cells #[x] t)) : W.cell? ⟨B, 0, none⟩ = some x := by simp [World.cell?, h]

/-! ### bytes in memory -/
def bv (l : List UInt8) : List Value := l.map fun b => .int .u8 (b.toNat : Int)
theorem bv_app (a b : List UInt8) : bv (a ++ b) = bv a ++ bv b := by simp [bv]
theorem own_form1 {W : World} {t n : Nat} {v : Value} {xs : List Value} (h : W.ownsRow 0 t 1 v n xs) : ∃ vo vc, v = .slice vo n vc := by
  rcases h.2 with ⟨rfl, h0⟩ | ⟨g, cap, cur, rfl, _⟩
  · exact ⟨none, 0, by rw [h0]⟩
  · exact ⟨_, _, rfl⟩
/-- bytes of the call's own -/
structure Byts (w W : World) (vo : Option Addr) (vc n : Nat) (bs : List UInt8) : Prop where
  own : W.ownsRow 0 5 1 (.slice vo n vc) n (bv bs)
  gr : Gr w W
  new : ∀ g, (Value.slice vo n vc).ownBlock = some g → w.heap.size ≤ g
theorem info5 : (Tryz.prog.info? 5).map (fun i => (i.zero, i.size, i.bytes)) = some (some (.int .u8 0), 1, 1) := by kernel_rfl
theorem Byts.len {w W : World} {vo : Option Addr} {vc n : Nat} {bs : List UInt8} (h : Byts w W vo vc n bs) : bs.length = n := by have := h.own.1; simpa [bv] using this
theorem Byts.gr' {w W W' : World} {vo : Option Addr} {vc n : Nat} {bs : List UInt8} (h : Byts w W vo vc n bs) (g : Gr W W') : Byts w W' vo vc n bs :=
  ⟨own_kp h.own fun b e => g.block b (own_lt h.own b e) id, h.gr.trans g (fun _ _ h => h), h.new⟩
theorem Byts.nil (w W : World) (g : Gr w W) : Byts w W none 0 0 [] := ⟨World.ownsRow_nil _ _ _ _, g, fun g e => by simp [Value.ownBlock] at e⟩
/-- a list of bytes has grown: nothing else has changed -/
structure Ap (w W w' : World) (vo : Option Addr) (vc n : Nat) (vo' : Option Addr) (vc' n' : Nat) (bs' : List UInt8) : Prop where
  b : Byts w w' vo' vc' n' bs'
  kp : Keeps W w' (fun g => (Value.slice vo n vc).ownBlock = some g)
  blk : (Value.slice vo' n' vc').ownBlock = (Value.slice vo n vc).ownBlock ∨ ∀ g, (Value.slice vo' n' vc').ownBlock = some g → W.heap.size ≤ g
theorem Ap.refl {w W : World} {vo : Option Addr} {vc n : Nat} {bs : List UInt8} (h : Byts w W vo vc n bs) : Ap w W W vo vc n vo vc n bs := ⟨h, Keeps.refl _ _, .inl rfl⟩
theorem Ap.gr {w W W' W'' : World} {vo : Option Addr} {vc n : Nat} {vo' : Option Addr} {vc' n' : Nat} {bs' : List UInt8} (h : Ap w W W' vo vc n vo' vc' n' bs') (g : Gr W' W'') : Ap w W W'' vo vc n vo' vc' n' bs' :=
  ⟨h.b.gr' g, h.kp.trans g (fun _ _ f => f.elim), h.blk⟩
theorem Ap.pre {w W0 W W' : World} {vo : Option Addr} {vc n : Nat} {vo' : Option Addr} {vc' n' : Nat} {bs' : List UInt8} (g : Gr W0 W) (h : Ap w W W' vo vc n vo' vc' n' bs') : Ap w W0 W' vo vc n vo' vc' n' bs' :=
  ⟨h.b, (g.mono fun _ _ f => f.elim).trans h.kp (fun _ _ e => e), h.blk.imp id fun hb x hx => Nat.le_trans g.size (hb x hx)⟩
theorem Ap.trans {w W W1 W2 : World} {vo vo1 vo2 : Option Addr} {vc n vc1 n1 vc2 n2 : Nat} {b1 b2 : List UInt8} (h : Ap w W W1 vo vc n vo1 vc1 n1 b1) (k : Ap w W1 W2 vo1 vc1 n1 vo2 vc2 n2 b2) : Ap w W W2 vo vc n vo2 vc2 n2 b2 := by
  refine ⟨k.b, h.kp.trans k.kp (fun j hj e => ?_), ?_⟩
  · rcases h.blk with hb | hb
    · rw [← hb]; exact e
    · have := hb j e; omega
  · rcases k.blk with kb | kb
    · rw [kb]; exact h.blk
    · exact .inr fun g hg => Nat.le_trans h.kp.size (kb g hg)
/-- a box that is no row's stays -/
theorem Ap.box {w W W' : World} {vo : Option Addr} {vc n : Nat} {vo' : Option Addr} {vc' n' : Nat} {bs' : List UInt8} (h : Ap w W W' vo vc n vo' vc' n' bs') {B : Nat} {o : Obj} (hB : W.heap[B]? = some o) (hne : ¬ (Value.slice vo n vc).ownBlock = some B) : W'.heap[B]? = some o ∧ ¬ (Value.slice vo' n' vc').ownBlock = some B := by
  have hlt : B < W.heap.size := (Array.getElem?_eq_some_iff.1 hB).1
  refine ⟨(h.kp.block B hlt hne).trans hB, fun e => ?_⟩
  rcases h.blk with hb | hb
  · rw [hb] at e; exact hne e
  · have := hb B e; omega
theorem Byts.app {w W W2 : World} {vo vo' : Option Addr} {vc vc' n m : Nat} {bs us : List UInt8} {vs : List Value} (h : Byts w W vo vc n bs) (hvs : vs = bv us)
    (ho : W2.ownsRow 0 5 1 (.slice vo' m vc') m (bv bs ++ vs)) (hg : W.grownBy W2 (Value.slice vo n vc).ownBlock)
    (hor : (Value.slice vo' m vc').ownBlock = (Value.slice vo n vc).ownBlock ∨ ∀ g, (Value.slice vo' m vc').ownBlock = some g → W.heap.size ≤ g) : Ap w W W2 vo vc n vo' vc' m (bs ++ us) := by
  refine ⟨⟨?_, h.gr.trans (Keeps.ofGrown hg) (fun j hj e => by have := h.new j e; omega), fun g hg' => ?_⟩, Keeps.ofGrown hg, hor⟩
  · rw [bv_app, ← hvs]; exact ho
  · rcases hor with h1 | h1
    · rw [h1] at hg'; exact h.new g hg'
    · have := h1 g hg'
      have := h.gr.size
      omega
theorem src_u8 (w : World) (cs : List Value) (n : Nat) (hn : n = cs.length) (h1 : ∀ v ∈ cs, ∃ z, v = .int .u8 z) : Src Tryz.prog 1 28 (.slice (some ⟨w.heap.size, 0, none⟩) n n) n cs (w.alloc (.cells cs.toArray 5)) := by
  subst hn
  refine Src.ofSlice (w := w.alloc (.cells cs.toArray 5)) Tryz.underlying28 ⟨w.heap.size, 0, none⟩ cs.length cs.length cs (by simp) (fun j x h => ?_) (fun x h => by obtain ⟨z, rfl⟩ := h1 x h; rfl)
  have hb := heap_alloc_new w (.cells cs.toArray 5)
  have e : (⟨w.heap.size, 0, none⟩ : Addr).add j = ⟨w.heap.size, j, none⟩ := by cases j <;> simp [Addr.add]
  rw [e]
  simp only [World.cell?, hb]
  simpa using h
/-- bytes somewhere in memory -/
def BytesAt (W : World) (ao : Option Addr) (bs : List UInt8) : Prop :=
  bs ≠ [] → ∃ b o, ao = some ⟨b, o, none⟩ ∧ ∀ i (h : i < bs.length), W.cell? ⟨b, o + i, none⟩ = some (.int .u8 (bs[i].toNat : Int))
theorem BytesAt.gr {W W' : World} {ao : Option Addr} {bs : List UInt8} (h : BytesAt W ao bs) (g : Gr W W') : BytesAt W' ao bs := fun hn => by
  obtain ⟨b, o, e, hc⟩ := h hn
  exact ⟨b, o, e, fun j hj => g.cell' (hc j hj) id⟩
theorem bytes_of_own {W : World} {vo : Option Addr} {n vc : Nat} {l : List UInt8} (h : W.ownsRow 0 5 1 (.slice vo n vc) n (bv l)) : BytesAt W vo l := fun hn => by
  have hl : l.length = n := by have := h.1; simpa [bv] using this
  rcases h.2 with ⟨e, h0⟩ | ⟨g, cap, cur, e, _⟩
  · exact absurd (List.eq_nil_of_length_eq_zero (by omega)) hn
  · cases e
    refine ⟨g, 0, rfl, fun j hj => ?_⟩
    rw [Nat.zero_add, h.cellAt j (by omega)]
    simp [bv, hj]
theorem bytes_of_block {W : World} {B : Nat} {l : List UInt8} (h : W.heap[B]? = some (.cells (bv l).toArray 5 (0, 0))) : BytesAt W (some ⟨B, 0, none⟩) l := fun hn => by
  refine ⟨B, 0, rfl, fun j hj => ?_⟩
  simp [World.cell?, h, bv, hj]
end Go.Proofs.YtegjpmodleigeaaGreatDoor.Ink
namespace Go.Proofs.YtegjpmodleigeaaGreatDoor.Ink
open Go.Proofs.YtegjpmodleigeaaGreatDoor.Kit
open Go.RowKit Go.Deep
theorem size5 : (Tryz.prog.info? 5).map (·.size) = some 1 := by kernel_rfl

/-- an ink in memory: its list, its bound -/
def InkAt (w : World) (ty p : Nat) (go : Option Nat) (most : Int) (bs : List Int) : Prop :=
  ∃ v, w.heap[p]? = some (.cells #[v, .int .i64 most] ty (0, 0)) ∧ w.ownsRow 0 5 1 v bs.length (bs.map (Value.int .u8)) ∧ v.ownBlock = go

theorem InkAt.kept {w w' : World} {ty p : Nat} {go : Option Nat} {most : Int} {bs : List Int} {S : Nat → Prop} (h : InkAt w ty p go most bs) (hk : Keeps w w' S) (hp : ¬ S p) (hg : ∀ g, go = some g → ¬ S g) : InkAt w' ty p go most bs := by
  obtain ⟨v, hv, hown, hb⟩ := h
  refine ⟨v, ?_, ?_, hb⟩
  · rw [hk.block p (Array.getElem?_eq_some_iff.1 hv).1 hp]; exact hv
  · refine ⟨hown.1, ?_⟩
    rcases hown.2 with hn | ⟨g, cap, cur, rfl, hb', hgg, rest⟩
    · exact .inl hn
    · refine .inr ⟨g, cap, cur, rfl, hb', ?_, rest⟩
      rw [hk.block g (Array.getElem?_eq_some_iff.1 hgg).1 (hg g (by rw [← hb]; rfl))]
      exact hgg

theorem InkAt.form {w : World} {ty p : Nat} {go : Option Nat} {most : Int} {bs : List Int} (h : InkAt w ty p go most bs) :
    ∃ ao cap, w.heap[p]? = some (.cells #[.slice ao bs.length cap, .int .i64 most] ty (0, 0)) ∧ w.ownsRow 0 5 1 (.slice ao bs.length cap) bs.length (bs.map (Value.int .u8)) ∧ (Value.slice ao bs.length cap).ownBlock = go ∧
      w.cell? ⟨p, 0, none⟩ = some (.slice ao bs.length cap) ∧ w.cell? ⟨p, 1, none⟩ = some (.int .i64 most) ∧ w.frozen? ⟨p, 0, none⟩ = false := by
  obtain ⟨v, hv, hown, hb⟩ := h
  obtain ⟨ao, cap, rfl⟩ : ∃ ao cap, v = .slice ao bs.length cap := by
    rcases hown.2 with ⟨rfl, h0⟩ | ⟨g, cap, cur, rfl, _⟩
    · exact ⟨none, 0, by rw [h0]⟩
    · exact ⟨_, _, rfl⟩
  refine ⟨ao, cap, hv, hown, hb, ?_, ?_, frozen_of_row w p 0 _ _ hv⟩
  · rw [cell_of_row w p 0 _ _ _ hv]; rfl
  · rw [cell_of_row w p 1 _ _ _ hv]; rfl

theorem InkAt.lt {w : World} {ty p : Nat} {go : Option Nat} {most : Int} {bs : List Int} (h : InkAt w ty p go most bs) : p < w.heap.size ∧ ∀ g, go = some g → g < w.heap.size := by
  obtain ⟨v, hv, hown, hb⟩ := h
  exact ⟨(Array.getElem?_eq_some_iff.1 hv).1, fun g hg => (hown.lt g (hb.trans hg)).2⟩

/-- a row of bytes is no ink -/
theorem own_ne {w : World} {ty p : Nat} {v : Value} {n : Nat} {xs : List Value} {cs : Array Value} (hty : ty ≠ 5) (hp : w.heap[p]? = some (.cells cs ty (0, 0))) (hown : w.ownsRow 0 5 1 v n xs) : v.ownBlock ≠ some p := by
  intro e
  rcases hown.2 with ⟨rfl, _⟩ | ⟨g, cap, cur, rfl, _, hgg, _⟩
  · simp [Value.ownBlock] at e
  · simp [Value.ownBlock] at e
    subst e
    rw [hp] at hgg
    simp at hgg
    exact hty hgg.2

theorem InkAt.stored {w w1 : World} {ty p : Nat} {most : Int} {bs bs' : List Int} {v v' : Value} (hty : ty ≠ 5) (hv : w.heap[p]? = some (.cells #[v, .int .i64 most] ty (0, 0))) (hown : w.ownsRow 0 5 1 v bs.length (bs.map (Value.int .u8)))
    (hown' : w1.ownsRow 0 5 1 v' bs'.length (bs'.map (Value.int .u8))) (hgrow : w.grownBy w1 v.ownBlock) :
    w1.cell? ⟨p, 0, none⟩ = some v ∧ w1.frozen? ⟨p, 0, none⟩ = false ∧ InkAt (w1.setCell ⟨p, 0, none⟩ v') ty p v'.ownBlock most bs' ∧ Keeps w (w1.setCell ⟨p, 0, none⟩ v') (fun k => k = p ∨ v.ownBlock = some k) := by
  have hne := own_ne hty hv hown
  have hp1 : w1.heap[p]? = some (.cells #[v, .int .i64 most] ty (0, 0)) := by
    rw [hgrow.block p (Array.getElem?_eq_some_iff.1 hv).1 (fun e => hne e.symm)]; exact hv
  have hne' := own_ne hty hp1 hown'
  refine ⟨by rw [cell_of_row w1 p 0 _ _ _ hp1]; rfl, frozen_of_row w1 p 0 _ _ hp1, ⟨v', ?_, ?_, rfl⟩, ?_⟩
  · rw [heap_setCell_same w1 p 0 _ ty v' hp1]; rfl
  · refine ⟨hown'.1, ?_⟩
    rcases hown'.2 with hn | ⟨g, cap, cur, rfl, hb', hgg, rest⟩
    · exact .inl hn
    · refine .inr ⟨g, cap, cur, rfl, hb', ?_, rest⟩
      rw [heap_setCell_other w1 ⟨p, 0, none⟩ g _ (fun e => hne' (by simp [Value.ownBlock, e]))]
      exact hgg
  · have k := (Keeps.ofGrown hgrow).mono (T := fun k => k = p ∨ v.ownBlock = some k) fun b _ h => Or.inr h
    exact k.setCell (p := ⟨p, 0, none⟩) (fun _ => Or.inl rfl) _

def bytesOf (s : ByteArray) : List Int := s.data.toList.map fun b => (b.toNat : Int)
theorem bytesOf_cells (s : ByteArray) : (bytesOf s).map (Value.int .u8) = byteCells s := by simp [bytesOf, byteCells]
theorem bytesOf_length (s : ByteArray) : (bytesOf s).length = s.size := by simp [bytesOf]

theorem takes_any (p : Nat) (ao : Option Addr) (n cap : Nat) (most k : Int) (w : World) (h0 : w.cell? ⟨p, 0, none⟩ = some (.slice ao n cap)) (h1 : w.cell? ⟨p, 1, none⟩ = some (.int .i64 most))
    (hm : 0 ≤ most) (hm' : most ≤ 16777216) (hn : n ≤ 16777216) :
    Calls Tryz.prog 198 #[.pointer (some ⟨p, 0, none⟩), .int .i64 k] w fun e w' => e = .returned (.bool (decide (k ≤ most - n))) ∧ ∃ q, w' = w.drewN q := by
  go_enter Tryz.func198, Tryz.ntmps198
  go_wp2
  go_quiet (fail)
  go_wp2
  go_ret
  exact ⟨rfl, _, rfl⟩

/-- what every call on an ink leaves -/
def InkDone (w w' : World) (ty p : Nat) (go : Option Nat) (most : Int) (bs' : List Int) : Prop :=
  ∃ go', InkAt w' ty p go' most bs' ∧ Keeps w w' (fun k => k = p ∨ go = some k) ∧ (go' = go ∨ ∀ g, go' = some g → w.heap.size ≤ g)

theorem own_form {w : World} {v : Value} {n : Nat} {xs : List Value} (h : w.ownsRow 0 5 1 v n xs) : ∃ ao cap, v = .slice ao n cap := by
  rcases h.2 with ⟨rfl, h0⟩ | ⟨g, cap, cur, rfl, _⟩
  · exact ⟨none, 0, by rw [h0]⟩
  · exact ⟨_, _, rfl⟩

/-- behind an append and its store -/
theorem InkDone.mk {w w1 : World} {ty p q : Nat} {go : Option Nat} {most : Int} {bs : List Int} (news : List Int) {v v' : Value} {n' : Nat} {xs' : List Value} (hty : ty ≠ 5) (hv : w.heap[p]? = some (.cells #[v, .int .i64 most] ty (0, 0))) (hgo : v.ownBlock = go)
    (hown : w.ownsRow 0 5 1 v bs.length (bs.map (Value.int .u8))) (hown' : w1.ownsRow 0 5 1 v' n' xs') (hn : n' = (bs ++ news).length) (hx : xs' = (bs ++ news).map (Value.int .u8)) (hgrow : (w.drewN q).grownBy w1 v.ownBlock)
    (hblk : v'.ownBlock = v.ownBlock ∨ ∀ g, v'.ownBlock = some g → w.heap.size ≤ g) :
    w1.cell? ⟨p, 0, none⟩ = some v ∧ w1.frozen? ⟨p, 0, none⟩ = false ∧ InkDone w (w1.setCell ⟨p, 0, none⟩ v') ty p go most (bs ++ news) := by
  subst hn hx hgo
  obtain ⟨c, f, i, k⟩ := InkAt.stored (w := w.drewN q) (bs := bs) (bs' := bs ++ news) hty hv hown hown' hgrow
  exact ⟨c, f, _, i, ⟨k.os, k.tape, k.output, k.size, k.block⟩, hblk⟩

theorem InkDone.same {w : World} {ty p : Nat} {go : Option Nat} {most : Int} {bs : List Int} (h : InkAt w ty p go most bs) (q : Nat) : InkDone w (w.drewN q) ty p go most bs :=
  ⟨go, h, (Keeps.refl _ _).drewN q, .inl rfl⟩

end Go.Proofs.YtegjpmodleigeaaGreatDoor.Ink
