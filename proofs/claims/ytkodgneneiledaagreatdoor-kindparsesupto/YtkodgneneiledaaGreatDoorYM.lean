import Derived.Test.YtkodgneneiledaaGreatDoorYL
namespace Go.Proofs.YtkodgneneiledaaGreatDoor.Kit
open Go.RowKit Go.Shelf Go.Deep
set_option linter.unusedVariables false
attribute [local go_sem] run_store_func
structure FS (W U : World) (p : Nat) (s : ByteArray) (b c : Nat) (q : Except Nat Ps) (x0 x1 x2 x3 x4 x5 x6 : Value) : Prop where
  fb : FB W U p b c x0 x1 x2 x3 x4 x5 x6
  kp : KpN W U p
  ds : DS U p s q
theorem FS.call {U' : World} {q' : Except Nat Ps} {W U : World} {p b c : Nat} {s : ByteArray} {q : Except Nat Ps} {x0 x1 x2 x3 x4 x5 x6 : Value} (h : FS W U p s b c q x0 x1 x2 x3 x4 x5 x6) (hk : KpN U U' p) (hd : DS U' p s q') : FS W U' p s b c q' x0 x1 x2 x3 x4 x5 x6 := ⟨h.fb.kpn hk, h.kp.tr hk, hd⟩
theorem FS.gr {U' : World} {W U : World} {p b c : Nat} {s : ByteArray} {q : Except Nat Ps} {x0 x1 x2 x3 x4 x5 x6 : Value} (h : FS W U p s b c q x0 x1 x2 x3 x4 x5 x6) (hg : Gr U U') : FS W U' p s b c q x0 x1 x2 x3 x4 x5 x6 := h.call (Gr.n p hg) (h.ds.gr hg)
theorem FS.keep {U' : World} {y1 y2 y3 y4 y5 y6 : Value} {W U : World} {p b c : Nat} {s : ByteArray} {q : Except Nat Ps} {x0 x1 x2 x3 x4 x5 x6 : Value} (h : FS W U p s b c q x0 x1 x2 x3 x4 x5 x6) (k : Keeps U U' (fun z => z = c)) (hb : U'.heap[c]? = some (.cells #[x0, y1, y2, y3, y4, y5, y6] 37 (0, 0))) : FS W U' p s b c q x0 y1 y2 y3 y4 y5 y6 :=
  ⟨⟨(k.block b (lt_of_heap h.fb.rb) (by have := h.fb.lt; omega)).trans h.fb.rb, hb, h.fb.lt⟩, h.kp.trans k fun z hz e => by have := h.fb.lt; omega, h.ds.kept k fun z e => by rw [e]; exact ⟨h.fb.cok.1, h.fb.cok.2.2⟩⟩
theorem FS.set1 {W U : World} {p b c : Nat} {s : ByteArray} {q : Except Nat Ps} {x0 x1 x2 x3 x4 x5 x6 : Value} (h : FS W U p s b c q x0 x1 x2 x3 x4 x5 x6) (v : Value) : FS W (U.setCell ⟨c, 1, none⟩ v) p s b c q x0 v x2 x3 x4 x5 x6 := h.keep IS.kS (heap_setCell_same _ c 1 _ _ _ h.fb.tb)
theorem FS.set25 {W U : World} {p b c : Nat} {s : ByteArray} {q : Except Nat Ps} {x0 x1 x2 x3 x4 x5 x6 : Value} (h : FS W U p s b c q x0 x1 x2 x3 x4 x5 x6) (y2 y3 y4 y5 y6 : Value) : FS W (((((U.setCell ⟨c, 2, none⟩ y2).setCell ⟨c, 3, none⟩ y3).setCell ⟨c, 4, none⟩ y4).setCell ⟨c, 5, none⟩ y5).setCell ⟨c, 6, none⟩ y6) p s b c q x0 x1 y2 y3 y4 y5 y6 := h.keep (put25 y2 y3 y4 y5 y6 h.fb.tb).2 (put25 y2 y3 y4 y5 y6 h.fb.tb).1
theorem xf_any (nm : ByteArray) (bb : Bool) (k x y z : Int) (ko : Option Addr) (n kc : Nat) : XF (.agg #[.string nm, .bool bb, .int .i64 k, .int .i64 x, .int .i64 y, .int .i64 z, .slice ko n kc]) :=
  ⟨.mk nm bb k x y z (List.replicate n (.mk ⟨#[]⟩ false 0 0 0 0 [])), ko, kc, by show _ = Value.agg #[_, _, _, _, _, _, .slice ko (List.replicate n _).length kc]; rw [List.length_replicate]; rfl⟩
theorem field_end {α : Type} {W U w' : World} {p b c : Nat} {s : ByteArray} {y : Except Nat (α × Ps)} {R : Except Nat (FT × Ps)} {t : FT} {nm : ByteArray} {bb : Bool} {k x1 y1 z1 : Int} {ko : Option Addr} {kn kc D : Nat} (hF : FS W U p s b c (qs y) (.string nm) (.bool bb) (.int .i64 k) (.int .i64 x1) (.int .i64 y1) (.int .i64 z1) (.slice ko kn kc)) (hR : R = bp y fun _ => Pr.pure t)
    (hv : ∀ u st, y = .ok (u, st) → ∃ l, t = .mk nm bb k x1 y1 z1 l ∧ kn = l.length ∧ l.length ≤ kc ∧ RowAt (NB p W w') w' D ko l) (k3 : Keeps U w' (fun z => z = b)) :
    DnQ W p s R (FV p D W) XF (.returned (.agg #[.string nm, .bool bb, .int .i64 k, .int .i64 x1, .int .i64 y1, .int .i64 z1, .slice ko kn kc])) w' := by
  have kW : KpN W w' p := hF.kp.trans k3 fun z hz h => by have := hF.fb.lt; omega
  have hD := hF.ds.kept k3 fun z e => by rw [e]; exact ⟨hF.fb.bok.1, hF.fb.bok.2.2⟩
  cases y with
  | error o => exact DnQ.err kW (hR.trans (bp_err rfl)) (xf_any _ _ _ _ _ _ _ _ _) hD
  | ok z =>
    obtain ⟨l, rfl, rfl, h2, h3⟩ := hv z.1 z.2 rfl
    exact DnQ.ok kW (hR.trans (bp_ok rfl)) ⟨ko, kc, rfl, h2, h3⟩ hD
theorem typ_post {W w' : World} {p D : Nat} {s : ByteArray} {k : Int} {q : Except Nat (TP × Ps)} {e : Ending} (h : DnQ W p s q (fun w' t v => TV p D W w' (k, t) v) XT e w') : ∃ (k1 x1 y1 z1 : Int) (ko : Option Addr) (kn kc : Nat) (l : List FT), e = .returned (.agg #[.int .i64 k1, .int .i64 x1, .int .i64 y1, .int .i64 z1, .slice ko kn kc]) ∧ KpN W w' p ∧ DS w' p s (qs q) ∧ (∀ t st, q = .ok (t, st) → t = ⟨x1, y1, z1, l⟩) ∧ (∀ t st, q = .ok (t, st) → k1 = k ∧ kn = l.length ∧ l.length ≤ kc ∧ RowAt (NB p W w') w' D ko l) := by
  obtain ⟨hk, h⟩ := h
  cases q with
  | ok y =>
    obtain ⟨t, a, g⟩ := y
    obtain ⟨v, rfl, ⟨ko, kc, rfl, hkc, hr⟩, hA⟩ := h
    exact ⟨k, t.width, t.id, t.index, ko, t.kids.length, kc, t.kids, rfl, hk, hA, (fun y st e => by cases e; rfl), fun y st e => ⟨rfl, rfl, hkc, hr⟩⟩
  | error o =>
    obtain ⟨v, rfl, ⟨k1, x1, y1, z1, ko, n, kc, rfl⟩, hD⟩ := h
    exact ⟨k1, x1, y1, z1, ko, n, kc, [], rfl, hk, hD, (fun y st e => by cases e), fun y st e => by cases e⟩
theorem names_push {V w1 : World} {p : Nat} {s : ByteArray} {a o : Nat} {g : List Nat} {vo vo' : Option Addr} {vc vc' : Nat} (hA : DAt V p s a g vo vc) (hown : w1.ownsRow 0 3 1 (.slice vo' (g.length + 1) vc') (g.length + 1) (ints g ++ [.int .i64 (o : Int)])) (hgrow : (V.alloc (.cells #[.int .i64 (o : Int)] 3)).grownBy w1 (Value.slice vo g.length vc).ownBlock) (hblk : (Value.slice vo' (g.length + 1) vc').ownBlock = (Value.slice vo g.length vc).ownBlock ∨ ∀ q, (Value.slice vo' (g.length + 1) vc').ownBlock = some q → (V.alloc (.cells #[.int .i64 (o : Int)] 3)).heap.size ≤ q) :
    w1.cell? ⟨p, 3, none⟩ = some (.slice vo g.length vc) ∧ w1.frozen? ⟨p, 3, none⟩ = false ∧ KpN V (w1.setCell ⟨p, 3, none⟩ (.slice vo' (g.length + 1) vc')) p ∧ DAt (w1.setCell ⟨p, 3, none⟩ (.slice vo' (g.length + 1) vc')) p s a (g ++ [o]) vo' vc' := by
  have gA : Gr V (V.alloc (.cells #[.int .i64 (o : Int)] 3)) := gr_alloc V _
  have kA : Keeps V w1 (fun z => (Value.slice vo g.length vc).ownBlock = some z) := (gA.mono fun _ _ h => h.elim).trans (Keeps.ofGrown hgrow) (fun _ _ h => h)
  have kN : KpN V w1 p := kA.mono fun z hz e => .inr ⟨hA.new z e, by obtain ⟨cs, hb⟩ := own_blk hA.own e; exact ⟨cs, _, hb⟩⟩
  have hbp : w1.heap[p]? = some (.cells #[.string s, .int .i64 (a : Int), .int .i64 (-1), .slice vo g.length vc] 62 (0, 0)) := (kA.block p (lt_of_heap hA.box) fun h => own_apart hA.own hA.box (by decide) h).trans hA.box
  have hL : (g ++ [o]).length = g.length + 1 := by simp
  have hnew : ∀ q, (Value.slice vo' (g.length + 1) vc').ownBlock = some q → p < q := fun q e => hblk.elim (fun h => hA.new q (h ▸ e)) fun h => by have := h q e; have := lt_of_heap hA.box; have := gA.size; omega
  have kS : Keeps w1 (w1.setCell ⟨p, 3, none⟩ (.slice vo' (g.length + 1) vc')) (fun z => z = p) := IS.kS
  refine ⟨by simp [World.cell?, hbp], frz hbp 3, kN.tr (kS.mono fun _ _ h => .inl h), ⟨?_, hA.len, hA.pos, ?_, by rw [hL]; exact hnew, hA.pz⟩⟩
  · rw [hL, heap_setCell_same w1 p 3 _ _ _ hbp]; simp
  rw [hL]
  have e1 : ints (g ++ [o]) = ints g ++ [.int .i64 (o : Int)] := by simp [ints]
  rw [e1]
  exact row_kp hown fun q e => kS.block q (own_lt hown q e) (by have := hnew q e; omega)
theorem field_noname {T : List UInt8} {d c : Nat} {g : List Nat} {o : Nat} (h : nmP T (c, g) = .error o) : fieldP T (d + 1) (c, g) = .error o := by
  rw [fieldP]
  refine Pr.bind_err ?_
  unfold nmP at h
  unfold nameP
  cases hw : wordP T (c, g) with
  | error e => rw [Pr.bind_err hw] at h ⊢; cases h; rfl
  | ok y =>
    rw [Pr.bind_ok hw] at h ⊢
    by_cases h0 : y.1.1.size = 0
    · rw [if_pos h0] at h ⊢; exact h
    rw [if_neg h0] at h; cases h
theorem nm_ok {T : List UInt8} {c a1 : Nat} {g g1 : List Nat} {x : ByteArray} (h : nmP T (c, g) = .ok (x, (a1, g1))) : g1 = g ∧ c < a1 ∧ nameP T (c, g) = .ok (x, (a1, g ++ [c + skN (T.drop c)])) := by
  have e0 : nmP T (c, g) = if (wordsB (T.drop (c + skN (T.drop c)))).toArray.size = 0 then .error (c + skN (T.drop c)) else .ok (⟨(wordsB (T.drop (c + skN (T.drop c)))).toArray⟩, (c + skN (T.drop c) + (wordsB (T.drop (c + skN (T.drop c)))).length, g)) := rfl
  have e1 : nameP T (c, g) = if (wordsB (T.drop (c + skN (T.drop c)))).toArray.size = 0 then .error (c + skN (T.drop c)) else .ok (⟨(wordsB (T.drop (c + skN (T.drop c)))).toArray⟩, (c + skN (T.drop c) + (wordsB (T.drop (c + skN (T.drop c)))).length, g ++ [c + skN (T.drop c)])) := rfl
  rw [e0] at h
  by_cases h0 : (wordsB (T.drop (c + skN (T.drop c)))).toArray.size = 0
  · rw [if_pos h0] at h; cases h
  rw [if_neg h0] at h
  rw [e1, if_neg h0]
  cases h
  rw [List.size_toArray] at h0
  exact ⟨rfl, by omega, rfl⟩
def restP (T : List UInt8) (r : Pr FT) (nm : ByteArray) : Pr FT := (typP T r).bind fun t => (takesP T 63).bind fun b => Pr.pure (.mk nm b t.1 t.2.width t.2.id t.2.index t.2.kids)
theorem field_rest {T : List UInt8} {d : Nat} {st st1 : Ps} {x : ByteArray} (h : nameP T st = .ok (x, st1)) : fieldP T (d + 1) st = restP T (fieldP T d) x st1 := by rw [fieldP]; exact Pr.bind_ok h
theorem rest_none {T : List UInt8} {r : Pr FT} {nm : ByteArray} {st : Ps} {o : Nat} (h : meanP T kindO st = .error o) : restP T r nm st = .error o := Pr.bind_err (Pr.bind_err h)
theorem rest_plain {T : List UInt8} {r : Pr FT} {nm : ByteArray} {st st1 : Ps} {k : Int} (h : meanP T kindO st = .ok (k, st1)) (hk : k < 14) : restP T r nm st = bp (bnd (.ok st1) (takesP T 63)) fun b => Pr.pure (.mk nm b k 0 0 0 []) := by
  have h1 : typP T r st = .ok ((k, ⟨0, 0, 0, []⟩), st1) := (Pr.bind_ok h).trans (by rw [if_pos hk]; rfl)
  exact (Pr.bind_ok h1).trans (bp_start _ _ _)
theorem rest_open {T : List UInt8} {r : Pr FT} {nm : ByteArray} {st st1 : Ps} {k : Int} (h : meanP T kindO st = .ok (k, st1)) (hk : ¬ k < 14) : restP T r nm st = bp (bnd (.ok st1) (inrP T r k)) fun t => (takesP T 63).bind fun b => Pr.pure (.mk nm b k t.width t.id t.index t.kids) := by
  have e : typP T r st = ((inrP T r k).bind fun t => Pr.pure (k, t)) st1 := (Pr.bind_ok h).trans (by
    rw [if_neg hk]
    unfold inrP
    simp only [Pr.assoc, Pr.pureB])
  rw [← bp_start]
  cases h2 : inrP T r k st1 with
  | error o =>
    rw [Pr.bind_err h2]
    exact Pr.bind_err (e.trans (Pr.bind_err h2))
  | ok y =>
    obtain ⟨t, s2⟩ := y
    rw [Pr.bind_ok h2]
    exact Pr.bind_ok (e.trans (Pr.bind_ok h2))
theorem drew_gr (w : World) : Gr w w.drew := (Keeps.refl w (fun _ => False)).drew
end Go.Proofs.YtkodgneneiledaaGreatDoor.Kit
