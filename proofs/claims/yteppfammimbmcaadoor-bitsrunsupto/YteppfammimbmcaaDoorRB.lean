import Derived.Test.YteppfammimbmcaaDoorRA
import Derived.Test.YteppfammimbmcaaDoorKF
import Derived.Test.YteppfammimbmcaaDoorFD
import Derived.Test.YteppfammimbmcaaDoorKA
import Derived.Deep.RegionHeld3
namespace Go.Proofs.YteppfammimbmcaaDoor.Kit
open Go.RowKit Go.Shelf Go.Deep
set_option linter.unusedVariables false

theorem run_store_func {P : Program} {w : World} {a : Addr} {m : Mode} (f : Fn) (env lb : Array Value) : (store a (.func f env lb) m).run P w = stored P w a (.func f env lb) m := run_store P w a _ m rfl
attribute [local go_sem] Oper.semAt_some run_store_func

theorem own_ltS {w : World} {t s : Nat} {v : Value} {n : Nat} {xs : List Value} (h : w.ownsRow 0 t s v n xs) (g : Nat) (e : v.ownBlock = some g) : g < w.heap.size := by
  rcases h.2 with ⟨rfl, _⟩ | ⟨g', cap, cur, rfl, _, hgg, _⟩
  · simp [Value.ownBlock] at e
  · simp [Value.ownBlock] at e
    subst e
    exact (Array.getElem?_eq_some_iff.1 hgg).1
theorem src_of {w : World} {ao : Option Addr} {ca : Nat} {l : List Nat} (h : MapAt w (.slice ao l.length ca) l) : Src Tryd.prog 1 24 (.slice ao l.length ca) l.length (cellsB l) w := by
  obtain ⟨ao', ca', e, hb, _⟩ := h.form
  simp only [Value.slice.injEq, true_and] at e
  obtain ⟨rfl, rfl⟩ := e
  exact src_map w ao ca l hb
theorem own_map {w : World} {oo : Option Addr} {oc : Nat} {l : List Nat} (hl : l.length ≤ 10000000) (hb : Bytes l) (h : w.ownsRow 0 5 1 (.slice oo l.length oc) l.length (cellsB l)) : MapAt w (.slice oo l.length oc) l := by
  rcases h.2 with ⟨e, h0⟩ | ⟨g, cap, cur, e, _⟩
  · simp only [Value.slice.injEq] at e
    obtain ⟨rfl, _, rfl⟩ := e
    exact ⟨⟨none, 0, rfl, fun hn => by omega, by omega, by omega⟩, hb, hl⟩
  · simp only [Value.slice.injEq, true_and] at e
    obtain ⟨rfl, rfl⟩ := e
    have hc := own_cap h
    refine ⟨⟨_, oc, rfl, fun hn => ⟨g, 0, rfl, fun k hk => ?_⟩, hc.1, hc.2.1⟩, hb, hl⟩
    rw [Nat.zero_add, h.cellAt k (by omega), List.getElem?_map]
    simp [hk]
theorem runs_bd {l : List Nat} {fr n : Int} (hl : l.length ≤ 10000000) : (runsV l fr n).length ≤ 80000000 ∧ ∀ r ∈ runsV l fr n, r.1 + r.2 ≤ 80000000 := by
  unfold runsV
  by_cases h : errOf l.length fr n = 0
  · have := err_bound h
    rw [if_pos h]
    have := rf_len_le (fromL l fr) n.toNat
    exact ⟨by omega, fun r hr => by have := rf_bound r hr; omega⟩
  · rw [if_neg h]
    exact ⟨by simp, fun r hr => by simp at hr⟩
theorem rangeH1 {F : Fence} {n : Nat} {P : Program} {α : Type} {g : Operand} {ps : Array Tmp} {assign body : Code} {Q : Exit → Act → World → Prop} {a : Act} {w : World}
    (hro : F.round = none) (h1 : 1 ≤ n) {gf : Nat} {lb : Array Value} (hg : a.eval g = .func (.func gf) #[] lb) (hFg : F.fn gf) (eg : ∀ args w, (callFunc gf args).run P w = .ok (.enter gf args) w)
    {encs : α → Array Value} {Kp : World → World → Prop} {S Sp : List α → Prop} {N : Nat} {w0 : World} (hseq : SeqStopsK F (n - 1) P gf lb encs Kp S Sp N w0)
    (hKt : ∀ {A B C : World}, Kp A B → Kp B C → Kp A C) (hKb : ∀ (W : World) (l : Nat) (o o' : Obj), w.heap.size ≤ l → W.heap[l]? = some o → o.isCells = false → o.isWalk = false → Kp W (W.putObj l o')) (hb0 : Below w0.heap.size w0 w) (hps : ∀ x, (encs x).size = ps.size)
    (I : List α → World → Prop) (Ix : Code → List α → World → Prop) (hI : OwnFrom w.heap.size I) (hIx : ∀ c, OwnFrom w.heap.size (Ix c)) (h0 : I [] w) (hKr : ∀ W, Kp W W) (a₁ : α → Act)
    (hassign : ∀ (l : Nat) (x : α) (W : World) (K : Act → World → Prop), K (a₁ x) W →
      assign.wpIn (F.inRound l) (n - 1 - 1) P (Exit.then K (fun _ _ _ => False)) { tmps := (ps.zip (encs x)).foldl (fun t (p, v) => t.setIfInBounds p v) a.tmps, defers := [] } W)
    (hbody : ∀ (l : Nat) (pre : List α) (x : α) (W : World), w.heap.size ≤ l → (∃ r, W.heap[l]? = some (.loop r)) → I pre W → pre.length < N → body.wpIn (F.inRound l) (n - 1 - 1) P (ownPostG w.heap.size Kp I Ix (pre ++ [x]) W) (a₁ x) W)
    (hdone : ∀ (D : Nat) (xs : List α) (W : World), w.heap.size ≤ D → S xs → I xs W → W.heap[D]? = some (.deferred (some [])) → Q .normal { a with defers := { target := .collected D, args := #[] } :: a.defers } W)
    (hstop : ∀ (D : Nat) (c : Code) (pre : List α) (W : World), w.heap.size ≤ D → Sp pre → Ix c pre W → W.heap[D]? = some (.deferred (some [])) → c.wpIn F n P Q { a with defers := { target := .collected D, args := #[] } :: a.defers } W) :
    (Code.rangeFunc g ps assign body).wpIn F n P Q a w :=
  wpIn_rangeFunc_ownH hro h1 hg hFg eg hseq hKt hKb hb0 hps I Ix hI hIx h0 (fun x a' _ => a' = a₁ x) (fun _ _ _ _ _ _ hs _ _ => hs)
    (fun l pre x W K hi hK => hassign l x W K (hK _ _ (KeepsFrom.refl _ _) (hKr _) hi rfl)) (fun l pre x a' W hl hr hi ha hlt => by subst ha; exact hbody l pre x W hl hr hi hlt) hdone hstop
theorem rangeN1 {F : Fence} {n : Nat} {P : Program} {α : Type} {g : Operand} {ps : Array Tmp} {assign body : Code} {Q : Exit → Act → World → Prop} {a : Act} {w : World}
    {l₀ : Nat} {r₀ : Loop} (hro : F.round = some l₀) (hl₀ : w.heap[l₀]? = some (.loop r₀)) (h1 : 1 ≤ n) {gf : Nat} {lb : Array Value} (hg : a.eval g = .func (.func gf) #[] lb) (hFg : F.fn gf) (eg : ∀ args w, (callFunc gf args).run P w = .ok (.enter gf args) w)
    {encs : α → Array Value} {Kp : World → World → Prop} {S Sp : List α → Prop} {N : Nat} {w0 : World} (hseq : SeqStopsK F (n - 1) P gf lb encs Kp S Sp N w0)
    (hKt : ∀ {A B C : World}, Kp A B → Kp B C → Kp A C) (hKb : ∀ (W : World) (l : Nat) (o o' : Obj), w.heap.size ≤ l → W.heap[l]? = some o → o.isCells = false → o.isWalk = false → Kp W (W.putObj l o')) (hb0 : Below w0.heap.size w0 w) (hps : ∀ x, (encs x).size = ps.size)
    (I : List α → World → Prop) (Ix : Code → List α → World → Prop) (hI : OwnFrom w.heap.size I) (hIx : ∀ c, OwnFrom w.heap.size (Ix c)) (h0 : I [] w) (hKr : ∀ W, Kp W W) (a₁ : α → Act)
    (hassign : ∀ (l : Nat) (x : α) (W : World) (K : Act → World → Prop), K (a₁ x) W →
      assign.wpIn (F.inRound l) (n - 1 - 1) P (Exit.then K (fun _ _ _ => False)) { tmps := (ps.zip (encs x)).foldl (fun t (p, v) => t.setIfInBounds p v) a.tmps, defers := [] } W)
    (hbody : ∀ (l : Nat) (pre : List α) (x : α) (W : World), I pre W → pre.length < N → body.wpIn (F.inRound l) (n - 1 - 1) P (ownPostG w.heap.size Kp I Ix (pre ++ [x]) W) (a₁ x) W)
    (hdone : ∀ (xs : List α) (W : World), S xs → I xs W → Q .normal a W)
    (hstop : ∀ (c : Code) (pre : List α) (W : World), Sp pre → Ix c pre W → c.wpIn F n P Q a W) :
    (Code.rangeFunc g ps assign body).wpIn F n P Q a w :=
  wpIn_rangeFunc_ownN hro hl₀ h1 hg hFg eg hseq hKt hKb hb0 hps I Ix hI hIx h0 (fun x a' _ => a' = a₁ x) (fun _ _ _ _ _ _ hs _ _ => hs)
    (fun l pre x W K hi hK => hassign l x W K (hK _ _ (KeepsFrom.refl _ _) (hKr _) hi rfl)) (fun l pre x a' W hl hr hi ha hlt => by subst ha; exact hbody l pre x W hi hlt) hdone hstop
/-- what the loops of BitsRuns find in memory: the variables, the document's runs -/
structure RI (S : Nat → Prop) (w4 w W : World) (B E V A Kb : Nat) (early : Int) (vo : Option Addr) (rs : List (Nat × Nat)) (vc : Nat) (fv : Value) (k : Int) : Prop where
  br : Boxed W (B + 1) 4 (.bool false)
  be : Boxed W E 3 (.int .i64 early)
  bv : Boxed W V 44 (.slice vo rs.length vc)
  ba : Boxed W A 47 fv
  bk : Boxed W Kb 3 (.int .i64 k)
  rw : W.ownsRow 0 50 2 (.slice vo rs.length vc) rs.length (runCells rs)
  be_ : Below w.heap.size w W
  kp : KpOf S w4 W
theorem kp_turn {S : Nat → Prop} {w4 X Y : World} {row : Option Nat} {Bd : Nat} (hS : ∀ b, S b → b < Bd ∧ b < X.heap.size) (h : KpOf S w4 X) (hg : X.grownBy Y row) (hr : ∀ r, row = some r → Bd ≤ r ∧ ∃ o : Obj, X.heap[r]? = some o ∧ o.isCells = false) : KpOf S w4 Y :=
  kp_t h fun b hb => (Keeps.ofGrown hg).block b (hS b hb).2 fun e => by have := (hr b e).1; have := (hS b hb).1; omega
theorem RI.turn {S : Nat → Prop} {w4 w X Y : World} {B E V A Kb : Nat} {early : Int} {vo : Option Addr} {rs : List (Nat × Nat)} {vc : Nat} {fv : Value} {k : Int} {row : Option Nat} {Bd : Nat} (hle : w.heap.size ≤ Bd ∧ Kb < Bd ∧ ∀ b, S b → b < Kb) (h : RI S w4 w X B E V A Kb early vo rs vc fv k) (hg : X.grownBy Y row) (hr : ∀ r, row = some r → Bd ≤ r ∧ ∃ o : Obj, X.heap[r]? = some o ∧ o.isCells = false) : RI S w4 w Y B E V A Kb early vo rs vc fv k :=
  ⟨box_kept h.br hg hr, box_kept h.be hg hr, box_kept h.bv hg hr, box_kept h.ba hg hr, box_kept h.bk hg hr, own_turn h.rw hg hr, ownFrom_below (β := Unit) (Nat.le_refl _) hle.1 () X Y row h.be_ hg hr, kp_turn (fun b hb => ⟨by have := hle.2.2 b hb; omega, by have := hle.2.2 b hb; have := h.bk.lt; omega⟩) h.kp hg hr⟩
theorem RI.setK {S : Nat → Prop} {w4 w W : World} {B E V A Kb : Nat} {early : Int} {vo : Option Addr} {rs : List (Nat × Nat)} {vc : Nat} {fv : Value} {k : Int} (h : RI S w4 w W B E V A Kb early vo rs vc fv k) (ho : B + 1 ≠ Kb ∧ E ≠ Kb ∧ V ≠ Kb ∧ A ≠ Kb ∧ w.heap.size ≤ Kb ∧ (∀ g, (Value.slice vo rs.length vc).ownBlock = some g → g ≠ Kb) ∧ ¬ S Kb) (u : Int) : RI S w4 w (W.setCell ⟨Kb, 0, none⟩ (.int .i64 u)) B E V A Kb early vo rs vc fv u :=
  ⟨h.br.other ho.1 _, h.be.other ho.2.1 _, h.bv.other ho.2.2.1 _, h.ba.other ho.2.2.2.1 _, Boxed.set _ h.bk, own_kept h.rw ((Keeps.refl W (fun b => b = Kb)).setCell (p := ⟨Kb, 0, none⟩) (fun _ => rfl) _) (fun g e => ho.2.2.2.2.2.1 g e), h.be_.setCell (p := ⟨Kb, 0, none⟩) ho.2.2.2.2.1 _, kp_t h.kp (kp_set W ⟨Kb, 0, none⟩ _ ho.2.2.2.2.2.2)⟩
theorem RI.setJ {S : Nat → Prop} {w4 w W : World} {B E V A Kb Jb : Nat} {early : Int} {vo : Option Addr} {rs : List (Nat × Nat)} {vc : Nat} {fv : Value} {k : Int} (h : RI S w4 w W B E V A Kb early vo rs vc fv k) (ho : B + 1 ≠ Jb ∧ E ≠ Jb ∧ V ≠ Jb ∧ A ≠ Jb ∧ Kb ≠ Jb ∧ w.heap.size ≤ Jb ∧ (∀ g, (Value.slice vo rs.length vc).ownBlock = some g → g ≠ Jb) ∧ ¬ S Jb) (u : Value) : RI S w4 w (W.setCell ⟨Jb, 0, none⟩ u) B E V A Kb early vo rs vc fv k :=
  ⟨h.br.other ho.1 _, h.be.other ho.2.1 _, h.bv.other ho.2.2.1 _, h.ba.other ho.2.2.2.1 _, h.bk.other ho.2.2.2.2.1 _, own_kept h.rw ((Keeps.refl W (fun b => b = Jb)).setCell (p := ⟨Jb, 0, none⟩) (fun _ => rfl) _) (fun g e => ho.2.2.2.2.2.2.1 g e), h.be_.setCell (p := ⟨Jb, 0, none⟩) ho.2.2.2.2.2.1 _, kp_t h.kp (kp_set W ⟨Jb, 0, none⟩ _ ho.2.2.2.2.2.2.2)⟩
theorem RI.keep {S : Nat → Prop} {w4 w W W' : World} {B E V A Kb : Nat} {early : Int} {vo : Option Addr} {rs : List (Nat × Nat)} {vc : Nat} {fv : Value} {k : Int} (h : RI S w4 w W B E V A Kb early vo rs vc fv k) (hk : Keeps W W' (fun _ => False)) (hS : ∀ b, S b → b < Kb) : RI S w4 w W' B E V A Kb early vo rs vc fv k :=
  ⟨box_keeps h.br hk id, box_keeps h.be hk id, box_keeps h.bv hk id, box_keeps h.ba hk id, box_keeps h.bk hk id, own_kept h.rw hk fun _ _ => id, ((Keeps.below_none h.be_).trans hk fun _ _ h => h).below' (Nat.le_refl _), kp_t h.kp fun b hb => hk.block b (by have := hS b hb; have := h.bk.lt; omega) id⟩
theorem def_turn {X Y : World} {row : Option Nat} {Bd D : Nat} {o : Obj} (hD : D < Bd) (h : X.heap[D]? = some o) (hg : X.grownBy Y row) (hr : ∀ r, row = some r → Bd ≤ r ∧ ∃ o : Obj, X.heap[r]? = some o ∧ o.isCells = false) : Y.heap[D]? = some o :=
  ((Keeps.ofGrown hg).block D (Array.getElem?_eq_some_iff.1 h).1 fun e => by have := (hr D e).1; omega).trans h
theorem want_at {S : Nat → Prop} {w4 w W : World} {B E V A Kb : Nat} {early : Int} {vo : Option Addr} {rs : List (Nat × Nat)} {vc : Nat} {fv : Value} {kv : Int} (h : RI S w4 w W B E V A Kb early vo rs vc fv kv) (hb : ∀ r ∈ rs, r.1 + r.2 ≤ 80000000) (pre : List (Nat × Nat)) (k : Nat) (hkl : pre.length = k) (hk : k < rs.length) :
    ∃ g z y : Nat, vo = some ⟨g, 0, none⟩ ∧ W.cell? ⟨g, k * 2, none⟩ = some (.int .i64 (z : Int)) ∧ W.cell? ⟨g, k * 2 + 1, none⟩ = some (.int .i64 (y : Int)) ∧ z ≤ 80000000 ∧ y ≤ 80000000 ∧ rs.length ≤ vc ∧ ∀ x, pre ++ [x] <+: rs → x = (z, y) := by
  have hget := runCells_get rs k hk
  have hmem : rs.getD k (0, 0) ∈ rs := by rw [List.getD_eq_getElem?_getD, List.getElem?_eq_getElem hk]; exact List.getElem_mem hk
  have hbd := hb _ hmem
  rcases h.rw.2 with ⟨e, h0⟩ | ⟨g, cap, cur, e, _, _, h1, _⟩
  · omega
  · simp only [Value.slice.injEq, true_and] at e
    obtain ⟨rfl, rfl⟩ := e
    have c0 := h.rw.cells (g := g) rfl (2 * k) _ hget.1
    have c1 := h.rw.cells (g := g) rfl (2 * k + 1) _ hget.2
    rw [Addr.add_lit, Nat.zero_add, Nat.mul_comm] at c0
    rw [Addr.add_lit, Nat.zero_add, Nat.mul_comm 2] at c1
    refine ⟨g, _, _, rfl, c0, c1, by omega, by omega, h1, fun x hp => ?_⟩
    obtain ⟨t, rfl⟩ := hp
    subst hkl
    simp
/-- within the inner loop -/
def RJ (S : Nat → Prop) (w4 w W8 : World) (B E V A Kb Jb D b7 : Nat) (early : Int) (vo : Option Addr) (rs : List (Nat × Nat)) (vc : Nat) (fv : Value) (k j : Nat) (W' : World) : Prop :=
  (RI S w4 w W' B E V A Kb early vo rs vc fv k ∧ W'.heap[D]? = some (.deferred (some []))) ∧ Boxed W' Jb 3 (.int .i64 (j : Int)) ∧ KpOf S W8 W' ∧ KeepsFrom b7 W8 W'
theorem RJ.turn {S : Nat → Prop} {w4 w W8 X Y : World} {B E V A Kb Jb D b7 : Nat} {early : Int} {vo : Option Addr} {rs : List (Nat × Nat)} {vc : Nat} {fv : Value} {k j : Nat} {row : Option Nat} {Bd : Nat} (hle : w.heap.size ≤ Bd ∧ Kb < Bd ∧ ∀ b, S b → b < Kb) (hD : D < Bd) (h8 : W8.heap.size ≤ Bd) (h : RJ S w4 w W8 B E V A Kb Jb D b7 early vo rs vc fv k j X) (hg : X.grownBy Y row) (hr : ∀ r, row = some r → Bd ≤ r ∧ ∃ o : Obj, X.heap[r]? = some o ∧ o.isCells = false) : RJ S w4 w W8 B E V A Kb Jb D b7 early vo rs vc fv k j Y :=
  ⟨⟨RI.turn hle h.1.1 hg hr, def_turn hD h.1.2 hg hr⟩, box_kept h.2.1 hg hr, kp_turn (fun b hb => ⟨by have := hle.2.2 b hb; omega, by have := hle.2.2 b hb; have := h.1.1.bk.lt; omega⟩) h.2.2.1 hg hr, ownFrom_keepsFrom (β := Unit) h8 () X Y row h.2.2.2 hg hr⟩
theorem flip_step {W4 wr : World} {g oc n k : Nat} {l' : List Nat} (hk : k < n) (e1 : l'.length = n) (e2 : Bytes l') (e3 : wr.ownsRow 0 5 1 (.slice (some ⟨g, 0, none⟩) n oc) n (cellsB l')) (e4 : Keeps W4 wr (fun b => (Value.slice (some ⟨g, 0, none⟩) n oc).ownBlock = some b)) :
    ∃ x : Nat, x < 256 ∧ wr.cell? ⟨g, k, none⟩ = some (.int .u8 (x : Int)) ∧ wr.frozen? ⟨g, k, none⟩ = false ∧ Hid (∃ l2, l2.length = n ∧ Bytes l2 ∧ (wr.setCell ⟨g, k, none⟩ (.int .u8 ((255 - x : Nat) : Int))).ownsRow 0 5 1 (.slice (some ⟨g, 0, none⟩) n oc) n (cellsB l2) ∧ Keeps W4 (wr.setCell ⟨g, k, none⟩ (.int .u8 ((255 - x : Nat) : Int))) (fun b => (Value.slice (some ⟨g, 0, none⟩) n oc).ownBlock = some b)) := by
  have hk' : k < l'.length := by omega
  have hx := e3.cellAt k (by omega)
  rw [List.getElem?_map, List.getElem?_eq_getElem hk', Option.map_some] at hx
  refine ⟨l'[k], e2 _ (List.getElem_mem _), hx, own_frozen e3 k, l'.set k (255 - l'[k]), by simpa using e1, fun y hy => ?_, ?_, e4.setCell (p := ⟨g, k, none⟩) (fun _ => rfl) _⟩
  · rcases List.mem_or_eq_of_mem_set hy with h | h
    · exact e2 y h
    · omega
  · have := own_set e3 k hk (.int .u8 ((255 - l'[k] : Nat) : Int))
    have e : cellsB (l'.set k (255 - l'[k])) = (cellsB l').set k (.int .u8 ((255 - l'[k] : Nat) : Int)) := List.map_set
    rw [e]
    exact this
set_option maxRecDepth 100000 in
set_option maxHeartbeats 8000000 in
theorem bruns_any (ao bo : Option Addr) (ca cb nb : Nat) (la : List Nat) (fr n early : Int) (hfr : i64 fr) (hn : i64 n) (w : World) (hT : Tab w) (hA : MapAt w (.slice ao la.length ca) la) :
    Calls Tryd.prog 5 #[.agg #[.slice ao la.length ca, .slice bo nb cb, .int .i64 fr, .int .i64 n, .int .i64 early]] w fun e w' => e = .returned (.bool true) ∧ Keeps w w' (fun _ => False) := by
  have HT : Hid (Tab w) := hT
  have HA : Hid (MapAt w (.slice ao la.length ca) la) := hA
  have HFN : Hid (i64 fr ∧ i64 n) := ⟨hfr, hn⟩
  clear hT hA hfr hn
  have hs0 : ¬ IntKind.u8.signed = true := by decide
  refine (callsIn_wide (n := 10)).1 ?_
  refine callsIn_of_wp_marks Tryd.func5 rfl trivial ?_ rfl
  simp only [Tryd.ntmps5, List.size_toArray, List.length_cons, List.length_nil, Nat.reduceAdd, Nat.reduceSub, Array.replicate_succ, Array.replicate_zero, List.push_toArray, List.append_toArray, List.nil_append, List.cons_append]
  refine wpIn_wide.2 ?_
  go_wp2
  obtain ⟨W0, hW⟩ : ∃ W0, W0 = (w.alloc (.cells #[.slice ao la.length ca, .slice bo nb cb, .int .i64 fr, .int .i64 n, .int .i64 early] 43)).alloc (.cells #[.bool false] 4) := ⟨_, rfl⟩
  rw [← hW]
  have K : Hid (Keeps w W0 (fun _ => False)) := by rw [hW]; exact ((Keeps.refl _ _).alloc _).alloc _
  have BR : Hid (Boxed W0 (w.heap.size + 1) 4 (.bool false)) := by
    rw [hW]
    have := Boxed.new (w.alloc (.cells #[.slice ao la.length ca, .slice bo nb cb, .int .i64 fr, .int .i64 n, .int .i64 early] 43)) 4 (.bool false)
    rw [World.size_alloc] at this
    exact this
  have p0 : W0.cell? ⟨w.heap.size, 0, none⟩ = some (.slice ao la.length ca) := by rw [hW]; simp
  have p2 : W0.cell? ⟨w.heap.size, 2, none⟩ = some (.int .i64 fr) := by rw [hW]; simp
  have p3 : W0.cell? ⟨w.heap.size, 3, none⟩ = some (.int .i64 n) := by rw [hW]; simp
  have p4 : W0.cell? ⟨w.heap.size, 4, none⟩ = some (.int .i64 early) := by rw [hW]; simp
  have HZ : Hid (w.heap.size + 2 ≤ W0.heap.size) := by rw [hW]; show _ ≤ _; simp
  obtain ⟨B, hB⟩ : ∃ B, B = w.heap.size := ⟨_, rfl⟩
  rw [← hB] at BR p0 p2 p3 p4 HZ ⊢
  have HN : Hid (B = w.heap.size) := hB
  clear hW hB
  go_region_held3 (fun w' => w'.cell? ⟨B, 0, none⟩ = some (.slice ao la.length ca) ∧ w'.cell? ⟨B, 2, none⟩ = some (.int .i64 fr) ∧ w'.cell? ⟨B, 3, none⟩ = some (.int .i64 n) ∧ w'.cell? ⟨B, 4, none⟩ = some (.int .i64 early)) (go_keep) (fail)
  rename_i hHeld
  clear hHeld p0 p2 p3 p4
  obtain ⟨W1, hW⟩ : ∃ W1, W1 = (W0.alloc (.cells #[.int .i64 early] 3)).drew := ⟨_, rfl⟩
  rw [← hW]
  have hk : Keeps W0 W1 (fun _ => False) := by rw [hW]; exact Keeps.none_alloc_drew _ _
  have BE : Hid (Boxed W1 W0.heap.size 3 (.int .i64 early)) := by rw [hW]; exact Boxed.new W0 3 _
  replace BR := hidM (box_keeps BR.out hk id)
  replace K := hidM (K.out.trans hk fun _ _ h => h)
  have HZ2 : Hid (W0.heap.size + 1 ≤ W1.heap.size) := by rw [hW]; show _ ≤ _; simp
  clear hW hk
  generalize W0.heap.size = E at *
  replace HN := hidM (And.intro HN.out HZ.out)
  replace HZ := HZ2
  clear HZ2
  go_wp2_with fail
  go_at_call 16
  refine (rruns_all _ la fr n HFN.out.1 HFN.out.2 W1 (HA.out.kept K.out)).mono ?_
  obtain ⟨rs, hrs⟩ : ∃ rs, rs = runsV la fr n := ⟨_, rfl⟩
  rw [← hrs]
  rintro e w2 ⟨v2, rfl, hown, hblk, hk⟩
  obtain ⟨vo, vc, rfl⟩ := own_form hown
  have RW := hidM hown
  replace BR := hidM (box_keeps BR.out hk id)
  replace BE := hidM (box_keeps BE.out hk id)
  replace K := hidM (K.out.trans hk fun _ _ h => h)
  have HRL : Hid (∀ g, (Value.slice vo rs.length vc).ownBlock = some g → E + 1 ≤ g ∧ g < w2.heap.size) := fun g e => ⟨Nat.le_trans HZ.out (hblk g e), own_ltS hown g e⟩
  replace HZ := hidM (Nat.le_trans HZ.out hk.size)
  clear hown hblk hk
  have HSR : Hid (∀ o, Src Tryd.prog 1 24 (.slice ao la.length ca) la.length (cellsB la) (w2.alloc o)) := fun o => src_of ((HA.out.kept K.out).kept (Keeps.none_alloc _ o))
  have hlen := HA.out.len
  have HBY : Hid (Bytes la) := HA.out.bytes
  have HRS : Hid (rs = runsV la fr n) := hrs
  have HRB : Hid (rs.length ≤ 80000000 ∧ ∀ r ∈ rs, r.1 + r.2 ≤ 80000000) := by rw [hrs]; exact runs_bd hlen
  clear hrs HA
  go_wp2_with (first | (at_builtin; refine wpList_append_any _ rfl (.const (.slice none 0 0)) (.tmp 31) 24 24 rfl 5 (.int .u8 0) 1 Tryd.underlying24 info5 rfl _ _ _ rfl (World.ownsRow_nil _ 0 5 1) _ _ _ rfl (HSR.out _) ?h63 ?hby ?_))
  case h63 => omega
  case hby => omega
  intro v3 w3 hown hgrow hblk
  obtain ⟨oo, oc, rfl⟩ := own_form hown
  obtain ⟨W2, hW⟩ : ∃ W2, W2 = w2.alloc (.cells #[.slice vo rs.length vc] 44) := ⟨_, rfl⟩
  rw [← hW] at hgrow
  have hk : Keeps w2 W2 (fun _ => False) := by rw [hW]; exact Keeps.none_alloc _ _
  have BV : Hid (Boxed W2 w2.heap.size 44 (.slice vo rs.length vc)) := by rw [hW]; exact Boxed.new w2 44 _
  replace BR := hidM (box_keeps BR.out hk id)
  replace BE := hidM (box_keeps BE.out hk id)
  replace RW := hidM (own_kept RW.out hk fun _ _ => id)
  replace K := hidM (K.out.trans hk fun _ _ h => h)
  have HZ2 : Hid (w2.heap.size + 1 ≤ W2.heap.size) := by rw [hW]; show _ ≤ _; simp
  clear hW hk HSR
  generalize w2.heap.size = V at *
  replace HN := hidM (And.intro HN.out HZ.out)
  replace HZ := HZ2
  clear HZ2
  have hk : Keeps W2 w3 (fun _ => False) := (Keeps.ofGrown hgrow).mono fun b _ e => by simp [Value.ownBlock] at e
  replace BR := hidM (box_keeps BR.out hk id)
  replace BE := hidM (box_keeps BE.out hk id)
  replace BV := hidM (box_keeps BV.out hk id)
  replace RW := hidM (own_kept RW.out hk fun _ _ => id)
  replace K := hidM (K.out.trans hk fun _ _ h => h)
  have RO := hidM hown
  have HOL : Hid (∀ g, (Value.slice oo la.length oc).ownBlock = some g → V + 1 ≤ g ∧ g < w3.heap.size) := fun g e => ⟨hblk.elim (fun h => by rw [h] at e; simp [Value.ownBlock] at e) (fun h => h g e), own_lt hown g e⟩
  replace HZ := hidM (Nat.le_trans HZ.out hk.size)
  clear hown hgrow hblk hk
  have HM : Hid (MapAt w3 (.slice oo la.length oc) la) := own_map hlen HBY.out RO.out
  go_wp2_with fail
  go_at_call 17
  refine (runs_it _ la fr n HFN.out.1 HFN.out.2 w3 (HT.out.kept K.out id) HM.out).mono ?_
  rw [← HRS.out]
  rintro e w4 ⟨gf, lb, S, rfl, hI⟩
  have hk := hI.keeps
  replace BR := hidM (box_keeps BR.out hk id)
  replace BE := hidM (box_keeps BE.out hk id)
  replace BV := hidM (box_keeps BV.out hk id)
  replace RW := hidM (own_kept RW.out hk fun _ _ => id)
  replace RO := hidM (own_kept RO.out hk fun _ _ => id)
  replace K := hidM (K.out.trans hk fun _ _ h => h)
  have HLOW : Hid (∀ b, S b → b = 0 ∨ (w3.heap.size ≤ b ∧ b < w4.heap.size)) := hI.low
  have HIT : Hid (∀ n, 1 ≤ n → ∀ W, KpOf S w4 W → SeqStopsK Fence.wide n Tryd.prog gf lb encR (KpOf S) (fun xs => xs = rs) (fun pre => pre <+: rs) rs.length W) := hI.stops
  have HEN : Hid (∀ args w, (callFunc gf args).run Tryd.prog w = .ok (.enter gf args) w) := hI.enters
  have hnf := hI.notnil
  have hz34 := hk.size
  have HS4 : Hid (w.heap.size ≤ w4.heap.size) := K.out.size
  have HW0 : Hid (0 < w.heap.size) := block_lt_of_cell (HT.out 0 (by decide))
  clear hI hk HM
  obtain ⟨z3, hz3⟩ : ∃ z3, z3 = w3.heap.size := ⟨_, rfl⟩
  rw [← hz3] at HLOW HOL HZ hz34
  obtain ⟨W4, hW⟩ : ∃ W4, W4 = w4.alloc (.cells #[.func (.func gf) #[] lb] 47) := ⟨_, rfl⟩
  have hk : Keeps w4 W4 (fun _ => False) := by rw [hW]; exact Keeps.none_alloc _ _
  have BA : Hid (Boxed W4 w4.heap.size 47 (.func (.func gf) #[] lb)) := by rw [hW]; exact Boxed.new w4 47 _
  replace BR := hidM (box_keeps BR.out hk id)
  replace BE := hidM (box_keeps BE.out hk id)
  replace BV := hidM (box_keeps BV.out hk id)
  replace RW := hidM (own_kept RW.out hk fun _ _ => id)
  replace RO := hidM (own_kept RO.out hk fun _ _ => id)
  replace K := hidM (K.out.trans hk fun _ _ h => h)
  have HKP : Hid (KpOf S w4 W4) := fun b hb => hk.block b (by have := HW0.out; have := HS4.out; rcases HLOW.out b hb with e | e <;> omega) id
  go_wp2_with fail
  rw [← hW]
  have HZ2 : Hid (w4.heap.size + 1 ≤ W4.heap.size) := by rw [hW]; show _ ≤ _; simp
  clear hW hk HFN
  have HN4 : Hid (z3 ≤ w4.heap.size) := hz34
  clear hz34 hz3 HS4
  have HS4 : Hid (∃ zz, zz = w4.heap.size ∧ (∀ b, S b → b = 0 ∨ (z3 ≤ b ∧ b < zz)) ∧ z3 ≤ zz) := ⟨_, rfl, HLOW.out, HN4.out⟩
  clear HLOW HN4
  obtain ⟨A, hA4, HLOW, hz4⟩ := HS4.out
  rw [← hA4] at BA HZ2 ⊢
  replace HLOW := hidM HLOW
  replace HN := hidM (And.intro HN.out (And.intro HZ.out hz4))
  replace HZ := HZ2
  clear HZ2 HS4 hz4 hA4
  go_loopw [10] (fun i wr => ∃ k : Nat, k ≤ la.length ∧ i = .int .i64 k ∧ Hid (∃ l', l'.length = la.length ∧ Bytes l' ∧ wr.ownsRow 0 5 1 (.slice oo la.length oc) la.length (cellsB l') ∧ Keeps W4 wr (fun b => (Value.slice oo la.length oc).ownBlock = some b))) (fun i _ => la.length - (intOf i).toNat)
  case atStart => exact ⟨0, Nat.zero_le _, rfl, la, rfl, HBY.out, RO.out, Keeps.refl _ _⟩
  case round =>
    clear RO
    obtain ⟨k, hk, rfl, HR⟩ := hrel
    by_cases hlt : k < la.length
    · obtain ⟨l', e1, e2, e3, e4⟩ := HR.out
      obtain ⟨g, c, e5⟩ := own_some (by omega) e3
      simp only [Value.slice.injEq, true_and] at e5
      obtain ⟨rfl, rfl⟩ := e5
      obtain ⟨x, hb, hx, hfz, HR'⟩ := flip_step hlt e1 e2 e3 e4
      have hxs := not8 x hb
      clear HR e1 e2 e3 e4
      go_wp2
      go_roundw
      case rel => exact ⟨k + 1, by omega, by go_num, HR'⟩
      case measure => simp [intOf]; omega
    · obtain rfl : k = la.length := by omega
      obtain ⟨l', _, _, _, hk4⟩ := HR.out
      have hn := HN.out
      have hzz := HZ.out
      have hw0 := HW0.out
      replace BR := hidM (box_keeps BR.out hk4 (fun e => by have := HOL.out _ e; omega))
      replace BE := hidM (box_keeps BE.out hk4 (fun e => by have := HOL.out _ e; omega))
      replace BV := hidM (box_keeps BV.out hk4 (fun e => by have := HOL.out _ e; omega))
      replace BA := hidM (box_keeps BA.out hk4 (fun e => by have := HOL.out _ e; omega))
      replace RW := hidM (own_kept RW.out hk4 (fun q hq e => by have := HOL.out _ e; have := HRL.out _ hq; omega))
      replace K := hidM (K.out.trans hk4 (fun j hj e => by have := HOL.out _ e; omega))
      have HKP2 : Hid (KpOf S w4 wr) := kp_t HKP.out (fun b hb => hk4.block b (by rcases HLOW.out b hb with e | e <;> omega) (fun e => by have := HOL.out _ e; rcases HLOW.out b hb with e | e <;> omega))
      have HZ2 : Hid (A + 1 ≤ wr.heap.size) := Nat.le_trans HZ.out hk4.size
      clear hk4 HR HKP HOL hn hzz hw0 HZ HBY
      have hca := BA.out.cell
      have hcb := fun o => cellAlloc o BA.out.cell
      go_wp2
      obtain ⟨W6, hW⟩ : ∃ W6, W6 = wr.alloc (.cells #[.int .i64 0] 3) := ⟨_, rfl⟩
      rw [← hW]
      have hk : Keeps wr W6 (fun _ => False) := by rw [hW]; exact Keeps.none_alloc _ _
      have BK : Boxed W6 wr.heap.size 3 (.int .i64 0) := by rw [hW]; exact Boxed.new wr 3 _
      have HRI : Hid (RI S w4 w W6 B E V A wr.heap.size early vo rs vc (.func (.func gf) #[] lb) 0) := ⟨box_keeps BR.out hk id, box_keeps BE.out hk id, box_keeps BV.out hk id, box_keeps BA.out hk id, BK, own_kept RW.out hk fun _ _ => id, (K.out.trans hk fun _ _ h => h).below' (Nat.le_refl _), kp_t HKP2.out (fun b hb => hk.block b (by have := HZ2.out; have := HW0.out; have := K.out.size; rcases HLOW.out b hb with e | e <;> omega) id)⟩
      have HKP6 : Hid (KpOf S w4 W6) := kp_t HKP2.out (fun b hb => hk.block b (by have := HZ2.out; have := HW0.out; have := K.out.size; rcases HLOW.out b hb with e | e <;> omega) id)
      have HZ6 : Hid (wr.heap.size + 1 ≤ W6.heap.size) := by rw [hW]; show _ ≤ _; simp
      clear hca hcb BR BE BV BA RW K hk BK HKP2 hW
      generalize wr.heap.size = Kb at *
      replace HN := hidM (And.intro HN.out HZ2.out)
      clear HZ2
      have HSN : Hid (∀ q, q = B + 1 ∨ q = E ∨ q = V ∨ q = A ∨ Kb ≤ q → ¬ S q) := fun q hq hS => by have hn := HN.out; have hw0 := HW0.out; rcases HLOW.out q hS with e | e <;> omega
      have HSM : Hid (∀ b, S b → b < W6.heap.size) := fun b hb => by have hn := HN.out; have hw0 := HW0.out; have hn6 := HZ6.out; rcases HLOW.out b hb with e | e <;> omega
      have HSK : Hid (∀ b, S b → b < Kb) := fun b hb => by have hn := HN.out; have hw0 := HW0.out; rcases HLOW.out b hb with e | e <;> omega
      have HLE6 : Hid (w.heap.size ≤ W6.heap.size ∧ Kb < W6.heap.size ∧ ∀ b, S b → b < Kb) := ⟨by have hn := HN.out; have hn6 := HZ6.out; omega, by have hn6 := HZ6.out; omega, HSK.out⟩
      have HORD : Hid (B + 1 ≠ Kb ∧ E ≠ Kb ∧ V ≠ Kb ∧ A ≠ Kb ∧ w.heap.size ≤ Kb ∧ (∀ g, (Value.slice vo rs.length vc).ownBlock = some g → g ≠ Kb) ∧ ¬ S Kb) := by
        have hn := HN.out
        exact ⟨by omega, by omega, by omega, by omega, by omega, fun g e => by have := HRL.out g e; omega, fun h => by have := HSK.out _ h; omega⟩
      have HOR2 : Hid (E ≠ B + 1 ∧ V ≠ B + 1 ∧ A ≠ B + 1 ∧ Kb ≠ B + 1 ∧ w.heap.size ≤ B + 1 ∧ ∀ g, (Value.slice vo rs.length vc).ownBlock = some g → g ≠ B + 1) := by
        have hn := HN.out
        exact ⟨by omega, by omega, by omega, by omega, by omega, fun g e => by have := HRL.out g e; omega⟩
      have HS9 := hidM (HIT.out 9 (by omega) W6 HKP6.out)
      refine (wpIn_wide (n := 10)).1 ?_
      refine' wpIn_rangeFunc_ownF rfl (by decide) (gf := gf) (lb := lb) rfl trivial HEN.out HS9.out kp_t (kp_b HSM.out) (Below.refl _ _) (fun _ => rfl)
        (fun pre W => RI S w4 w W B E V A Kb early vo rs vc (.func (.func gf) #[] lb) pre.length)
        (fun c pre W => (c = .ret ∧ ¬ (pre <+: rs)) ∨ (c = .exit 2 ∧ (pre.length : Int) = early ∧ RI S w4 w W B E V A Kb early vo rs vc (.func (.func gf) #[] lb) pre.length))
        (fun s X Y row hs hg hr => RI.turn HLE6.out hs hg hr)
        (fun c s X Y row hs hg hr => hs.imp id fun h => ⟨h.1, h.2.1, RI.turn HLE6.out h.2.2 hg hr⟩)
        HRI.out _ ?assign ?body ?done ?stop
      case assign =>
        intro l x W K hK
        simp only [encR]
        gi_wp2
        exact hK
      case body =>
        rintro l pre x W hR hlt2
        obtain ⟨k, hkl⟩ : ∃ k, k = pre.length := ⟨_, rfl⟩
        obtain ⟨g, z, y, rfl, c0, c1, hz, hy, hvc, hpx⟩ := want_at hR HRB.out.2 pre k hkl.symm (by omega)
        have HPX : Hid (∀ x, pre ++ [x] <+: rs → x = (z, y)) := hpx
        have hrl := HRB.out.1
        rw [← hkl] at hR hlt2
        have HR := hidM hR
        have HKL : Hid (k = pre.length) := hkl
        have d1 := hR.be.cell
        have d2 := hR.bv.cell
        have d4 := hR.bk.cell
        have f4 := hR.bk.frozen
        have d0 := hR.br.cell
        have f0 := hR.br.frozen
        have hm1 : min x.1 1000000000 ≤ 1000000000 := Nat.min_le_right _ _
        have hm2 : min x.2 1000000000 ≤ 1000000000 := Nat.min_le_right _ _
        obtain ⟨u, hu⟩ : ∃ u, u = min x.1 1000000000 := ⟨_, rfl⟩
        obtain ⟨v, hv⟩ : ∃ v, v = min x.2 1000000000 := ⟨_, rfl⟩
        rw [← hu] at hm1 ⊢
        rw [← hv] at hm2 ⊢
        have HXX : Hid (pre ++ [x] <+: rs → u = z ∧ v = y) := fun hp => by
          have := HPX.out x hp
          subst this
          simp only at hu hv
          exact ⟨by omega, by omega⟩
        clear hu hv hpx HPX hkl hR
        have hkn : ¬ (rs.length : Int) ≤ (k : Int) := by omega
        by_cases h1 : z = u
        · by_cases h2 : y = v
          · subst h1 h2
            have HST : Hid (RI S w4 w (W.setCell ⟨Kb, 0, none⟩ (.int .i64 ((k : Int) + 1))) B E V A Kb early (some ⟨g, 0, none⟩) rs vc (.func (.func gf) #[] lb) ((pre ++ [x]).length : Nat)) := by
              have e : (((pre ++ [x]).length : Nat) : Int) = (k : Int) + 1 := by rw [List.length_append, ← HKL.out]; simp
              rw [e]
              exact HR.out.setK HORD.out _
            have e1 : (((pre ++ [x]).length : Nat) : Int) = (k : Int) + 1 := by rw [List.length_append, ← HKL.out]; simp
            have HE1 := hidM e1
            have dE := HST.out.be.cell
            clear e1
            by_cases h3 : (k : Int) + 1 = early
            · subst h3
              gi_wp2
              exact ⟨KeepsOthers.setCell _ _ _, .inr ⟨rfl, HE1.out, HST.out⟩⟩
            · have h3' : (((k : Int) + 1) == early) = false := by simpa using h3
              gi_wp2
              exact ⟨KeepsOthers.setCell _ _ _, kp_set W ⟨Kb, 0, none⟩ _ (HSN.out Kb (by simp)), HST.out⟩
          · subst h1
            have h2' : ¬ (y : Int) = (v : Int) := by omega
            have h2'' : ((y : Int) == (v : Int)) = false := by simpa using h2'
            gi_wp2
            exact ⟨KeepsOthers.setCell _ _ _, .inl ⟨rfl, fun hp => by have := HXX.out hp; omega⟩⟩
        · have h1' : ¬ (z : Int) = (u : Int) := by omega
          have h1'' : ((z : Int) == (u : Int)) = false := by simpa using h1'
          gi_wp2
          exact ⟨KeepsOthers.setCell _ _ _, .inl ⟨rfl, fun hp => by have := HXX.out hp; omega⟩⟩
      case done =>
        rintro D ys W hD hys hR hK
        rw [hys] at hR
        clear hys ys
        have HR0 : Hid (RI S w4 w (W.setCell ⟨Kb, 0, none⟩ (.int .i64 0)) B E V A Kb early vo rs vc (.func (.func gf) #[] lb) 0) := hR.setK HORD.out 0
        have HKD : Hid ((W.setCell ⟨Kb, 0, none⟩ (.int .i64 0)).heap[D]? = some (.deferred (some []))) := (KeepsOthers.setCell W ⟨Kb, 0, none⟩ (.int .i64 0)).same D _ hK rfl
        have c0 := hR.be.cell
        have c1 := hR.bv.cell
        have c2 := hR.bk.cell
        have c3 := hR.bk.frozen
        have c4 := HR0.out.ba.cell
        have HD := hidM hD
        clear hR hD hK
        go_wp2
        obtain ⟨W7, hW⟩ : ∃ W7, W7 = W.setCell ⟨Kb, 0, none⟩ (.int .i64 0) := ⟨_, rfl⟩
        rw [← hW] at HR0 HKD ⊢
        clear c0 c1 c2 c3 c4 hW
        have HD7 : Hid (D < W7.heap.size) := (Array.getElem?_eq_some_iff.1 HKD.out).1
        have HDK : Hid (Kb < D ∧ w.heap.size ≤ D) := by have h1 := HD.out; have h2 := HZ6.out; have h3 := HLE6.out.1; exact ⟨by omega, by omega⟩
        have HLE7 : Hid (w.heap.size ≤ W7.heap.size ∧ Kb < W7.heap.size ∧ ∀ b, S b → b < Kb) := ⟨HR0.out.be_.size, HR0.out.bk.lt, HSK.out⟩
        have HSM7 : Hid (∀ b, S b → b < W7.heap.size) := fun b hb => by have := HSK.out b hb; have := HR0.out.bk.lt; omega
        have HS7 := hidM (HIT.out 9 (by omega) W7 HR0.out.kp)
        refine (wpIn_wide (n := 10)).1 ?_
        refine' rangeH1 rfl (by decide) (gf := gf) (lb := lb) rfl trivial HEN.out HS7.out kp_t (kp_b HSM7.out) (Below.refl _ _) (fun _ => rfl)
          (fun pre W' => RI S w4 w W' B E V A Kb early vo rs vc (.func (.func gf) #[] lb) pre.length ∧ W'.heap[D]? = some (.deferred (some [])))
          (fun c pre W' => c = .ret ∧ ¬ (pre <+: rs))
          (fun s X Y row hs hg hr => ⟨RI.turn HLE7.out hs.1 hg hr, def_turn HD7.out hs.2 hg hr⟩)
          (fun c s X Y row hs hg hr => hs)
          ⟨HR0.out, HKD.out⟩ (fun _ _ _ => rfl) _ ?assign2 ?body2 ?done2 ?stop2
        case assign2 =>
          intro l x W' K hK
          simp only [encR]
          gi_wp2
          exact hK
        case body2 =>
          rintro l pre x W8 hl ⟨r, hr⟩ ⟨hR, hDD⟩ hlt2
          obtain ⟨k, hkl⟩ : ∃ k, k = pre.length := ⟨_, rfl⟩
          obtain ⟨g, z, y, hvo, c0, c1, hz, hy, hvc, hpx⟩ := want_at hR HRB.out.2 pre k hkl.symm (by omega)
          have HPX : Hid (∀ x, pre ++ [x] <+: rs → x = (z, y)) := hpx
          have hrl := HRB.out.1
          have HKL : Hid (k = pre.length) := hkl
          have hm1 : min x.1 1000000000 ≤ 1000000000 := Nat.min_le_right _ _
          have hm2 : min x.2 1000000000 ≤ 1000000000 := Nat.min_le_right _ _
          obtain ⟨u, hu⟩ : ∃ u, u = min x.1 1000000000 := ⟨_, rfl⟩
          obtain ⟨v, hv⟩ : ∃ v, v = min x.2 1000000000 := ⟨_, rfl⟩
          rw [← hu] at hm1 ⊢
          rw [← hv] at hm2 ⊢
          have HXX : Hid (pre ++ [x] <+: rs → u = z ∧ v = y) := fun hp => by
            have := HPX.out x hp
            rw [this] at hu hv
            simp only at hu hv
            exact ⟨by omega, by omega⟩
          clear hu hv hpx HPX
          rw [← hkl] at hR hlt2
          clear hkl
          have HR := hidM hR
          have HVO : Hid (vo = some ⟨g, 0, none⟩) := hvo
          have d2 := hR.bv.cell
          rw [hvo] at d2
          clear hvo
          have d4 := hR.bk.cell
          have d0 := hR.br.cell
          have f0 := hR.br.frozen
          have dA := fun o => cellAlloc o hR.ba.cell
          have HDD := hidM hDD
          have HLR : Hid (∃ r, W8.heap[l]? = some (.loop r)) := ⟨r, hr⟩
          have HLW := hidM hl
          clear hR hDD hr hl
          have hkn : ¬ (rs.length : Int) ≤ (k : Int) := by omega
          by_cases h1 : z = u
          · by_cases h2 : y = v
            · subst h1 h2
              gi_wp2
              clear c0 c1 d2 d4 d0 f0 dA HXX
              obtain ⟨W10, hW⟩ : ∃ W10, W10 = W8.alloc (.cells #[.int .i64 0] 3) := ⟨_, rfl⟩
              rw [← hW]
              have hk : Keeps W8 W10 (fun _ => False) := by rw [hW]; exact Keeps.none_alloc _ _
              have BJ : Boxed W10 W8.heap.size 3 (.int .i64 0) := by rw [hW]; exact Boxed.new W8 3 _
              have hKO : KeepsFrom W7.heap.size W8 W10 := by rw [hW]; exact (KeepsOthers.alloc _ _).from _
              obtain ⟨r, hr⟩ := HLR.out
              have hr' : W10.heap[l]? = some (.loop r) := (hk.block l (Array.getElem?_eq_some_iff.1 hr).1 id).trans hr
              have HR10 : Hid (RI S w4 w W10 B E V A Kb early vo rs vc (.func (.func gf) #[] lb) k) := HR.out.keep hk HSK.out
              have HD10 : Hid (W10.heap[D]? = some (.deferred (some []))) := (hk.block D (Array.getElem?_eq_some_iff.1 HDD.out).1 id).trans HDD.out
              have HKP10 : Hid (KpOf S W8 W10) := fun b hb => hk.block b (by have := HSK.out b hb; have := HR.out.bk.lt; omega) id
              obtain ⟨Jb, hJb⟩ : ∃ Jb, Jb = W8.heap.size := ⟨_, rfl⟩
              have HJO : Hid (B + 1 ≠ Jb ∧ E ≠ Jb ∧ V ≠ Jb ∧ A ≠ Jb ∧ Kb ≠ Jb ∧ w.heap.size ≤ Jb ∧ (∀ g, (Value.slice vo rs.length vc).ownBlock = some g → g ≠ Jb) ∧ ¬ S Jb) := by
                have q1 := HR.out.br.lt
                have q2 := HR.out.be.lt
                have q3 := HR.out.bv.lt
                have q4 := HR.out.ba.lt
                have q5 := HR.out.bk.lt
                have q6 := HR.out.be_.size
                exact ⟨by omega, by omega, by omega, by omega, by omega, by omega, fun g e => by have := own_ltS HR.out.rw g e; omega, fun h => by have := HSK.out _ h; omega⟩
              have HSM10 : Hid (∀ b, S b → b < W10.heap.size) := fun b hb => by have := HSK.out b hb; have := HR10.out.bk.lt; omega
              have HLE10 : Hid (w.heap.size ≤ W10.heap.size ∧ Kb < W10.heap.size ∧ ∀ b, S b → b < Kb) := ⟨HR10.out.be_.size, HR10.out.bk.lt, HSK.out⟩
              have HD10L : Hid (D < W10.heap.size) := (Array.getElem?_eq_some_iff.1 HD10.out).1
              have HSZ10 : Hid (W8.heap.size ≤ W10.heap.size) := hk.size
              have HS10 := hidM ((HIT.out 7 (by omega) W10 HR10.out.kp).inRound l)
              have HJ0 : Hid (RJ S w4 w W8 B E V A Kb Jb D W7.heap.size early vo rs vc (.func (.func gf) #[] lb) k 0 W10) := ⟨⟨HR10.out, HD10.out⟩, by rw [hJb]; exact BJ, HKP10.out, hKO⟩
              rw [← hJb]
              clear hW hk BJ hKO hJb hr
              refine' rangeN1 (l₀ := l) (r₀ := r) rfl hr' (by decide) (gf := gf) (lb := lb) rfl trivial HEN.out HS10.out kp_t (kp_b HSM10.out) (Below.refl _ _) (fun _ => rfl)
                (fun pre' W' => RJ S w4 w W8 B E V A Kb Jb D W7.heap.size early vo rs vc (.func (.func gf) #[] lb) k pre'.length W')
                (fun c pre' W' => (c = .ret ∧ ¬ (pre' <+: rs)) ∨ (c = .exit 6 ∧ 0 < k ∧ RJ S w4 w W8 B E V A Kb Jb D W7.heap.size early vo rs vc (.func (.func gf) #[] lb) k pre'.length W'))
                (fun s X Y row hs hg hr => RJ.turn HLE10.out HD10L.out HSZ10.out hs hg hr)
                (fun c s X Y row hs hg hr => hs.imp id fun h => ⟨h.1, h.2.1, RJ.turn HLE10.out HD10L.out HSZ10.out h.2.2 hg hr⟩)
                HJ0.out (fun _ _ _ => rfl) _ ?assign3 ?body3 ?done3 ?stop3
              case assign3 =>
                intro l2 x' W' K hK
                simp only [encR]
                gi_wp2
                exact hK
              case body3 =>
                rintro l2 pre' x' W' hj hlt3
                have hR := hj.1.1
                obtain ⟨j, hkl⟩ : ∃ j, j = pre'.length := ⟨_, rfl⟩
                obtain ⟨g, z, y, hvo, c0, c1, hz, hy, hvc, hpx⟩ := want_at hR HRB.out.2 pre' j hkl.symm (by omega)
                have HPX : Hid (∀ x, pre' ++ [x] <+: rs → x = (z, y)) := hpx
                have HKL2 : Hid (j = pre'.length) := hkl
                have hm1 : min x'.1 1000000000 ≤ 1000000000 := Nat.min_le_right _ _
                have hm2 : min x'.2 1000000000 ≤ 1000000000 := Nat.min_le_right _ _
                obtain ⟨u, hu⟩ : ∃ u, u = min x'.1 1000000000 := ⟨_, rfl⟩
                obtain ⟨v, hv⟩ : ∃ v, v = min x'.2 1000000000 := ⟨_, rfl⟩
                rw [← hu] at hm1 ⊢
                rw [← hv] at hm2 ⊢
                have HXX : Hid (pre' ++ [x'] <+: rs → u = z ∧ v = y) := fun hp => by
                  have := HPX.out x' hp
                  rw [this] at hu hv
                  simp only at hu hv
                  exact ⟨by omega, by omega⟩
                clear hu hv hpx HPX
                rw [← hkl] at hj hlt3
                clear hkl
                have HJ := hidM hj
                have d2 := hR.bv.cell
                rw [hvo] at d2
                clear hvo
                have d4 := hR.bk.cell
                have d0 := hR.br.cell
                have f0 := hR.br.frozen
                have dJ := hj.2.1.cell
                have fJ := hj.2.1.frozen
                clear hR hj
                have hjn : ¬ (rs.length : Int) ≤ (j : Int) := by omega
                by_cases h1 : z = u
                · by_cases h2 : y = v
                  · subst h1 h2
                    have HST : Hid (RJ S w4 w W8 B E V A Kb Jb D W7.heap.size early vo rs vc (.func (.func gf) #[] lb) k (pre' ++ [x']).length (W'.setCell ⟨Jb, 0, none⟩ (.int .i64 ((j : Int) + 1)))) := by
                      have e : (((pre' ++ [x']).length : Nat) : Int) = (j : Int) + 1 := by rw [List.length_append, ← HKL2.out]; simp
                      refine ⟨⟨HJ.out.1.1.setJ HJO.out _, (KeepsOthers.setCell W' ⟨Jb, 0, none⟩ _).same D _ HJ.out.1.2 rfl⟩, ?_, kp_t HJ.out.2.2.1 (kp_set W' ⟨Jb, 0, none⟩ _ HJO.out.2.2.2.2.2.2.2), HJ.out.2.2.2.trans ((KeepsOthers.setCell _ _ _).from _)⟩
                      rw [e]
                      exact Boxed.set _ HJ.out.2.1
                    have dK := HST.out.1.1.bk.cell
                    clear HJ
                    by_cases h3 : (3 : Int) < (j : Int) + 1
                    · by_cases h4 : (0 : Int) < (k : Int)
                      · gi_wp2
                        have hk1 : 0 < k := by omega
                        first | exact ⟨(KeepsOthers.setCell _ _ _).from _, .inr ⟨rfl, hk1, HST.out⟩⟩ | exact ⟨(KeepsOthers.setCell _ _ _).from _, hk1, HST.out⟩ | exact ⟨(KeepsOthers.setCell _ _ _).from _, .inr ⟨hk1, HST.out⟩⟩ | exact ⟨(KeepsOthers.setCell _ _ _).from _, .inr ⟨rfl, HST.out⟩⟩
                      · gi_wp2
                        exact ⟨(KeepsOthers.setCell _ _ _).from _, kp_set W' ⟨Jb, 0, none⟩ _ HJO.out.2.2.2.2.2.2.2, HST.out⟩
                    · gi_wp2
                      exact ⟨(KeepsOthers.setCell _ _ _).from _, kp_set W' ⟨Jb, 0, none⟩ _ HJO.out.2.2.2.2.2.2.2, HST.out⟩
                  · subst h1
                    have h2' : ¬ (y : Int) = (v : Int) := by omega
                    have h2'' : ((y : Int) == (v : Int)) = false := by simpa using h2'
                    gi_wp2
                    exact ⟨(KeepsOthers.setCell _ _ _).from _, .inl ⟨rfl, fun hp => by have := HXX.out hp; omega⟩⟩
                · have h1' : ¬ (z : Int) = (u : Int) := by omega
                  have h1'' : ((z : Int) == (u : Int)) = false := by simpa using h1'
                  gi_wp2
                  exact ⟨(KeepsOthers.setCell _ _ _).from _, .inl ⟨rfl, fun hp => by have := HXX.out hp; omega⟩⟩
              case done3 =>
                rintro ys W' hys hj
                rw [hys] at hj
                clear hys ys
                have HFIN : Hid (KeepsFrom W7.heap.size W8 (W'.setCell ⟨Kb, 0, none⟩ (.int .i64 ((k : Int) + 1))) ∧ KpOf S W8 (W'.setCell ⟨Kb, 0, none⟩ (.int .i64 ((k : Int) + 1))) ∧ RI S w4 w (W'.setCell ⟨Kb, 0, none⟩ (.int .i64 ((k : Int) + 1))) B E V A Kb early vo rs vc (.func (.func gf) #[] lb) ((pre ++ [x]).length : Nat) ∧ (W'.setCell ⟨Kb, 0, none⟩ (.int .i64 ((k : Int) + 1))).heap[D]? = some (.deferred (some []))) := by
                  have e : (((pre ++ [x]).length : Nat) : Int) = (k : Int) + 1 := by rw [List.length_append, ← HKL.out]; simp
                  rw [e]
                  exact ⟨hj.2.2.2.trans ((KeepsOthers.setCell _ _ _).from _), kp_t hj.2.2.1 (kp_set W' ⟨Kb, 0, none⟩ _ HORD.out.2.2.2.2.2.2), hj.1.1.setK HORD.out _, (KeepsOthers.setCell W' ⟨Kb, 0, none⟩ _).same D _ hj.1.2 rfl⟩
                have e1 := hj.1.1.bk.cell
                have e2 := hj.1.1.bk.frozen
                have e3 := hj.2.1.cell
                have e4 := hj.1.1.bv.cell
                have e5 := hj.1.1.br.cell
                have e6 := hj.1.1.br.frozen
                clear hj
                by_cases hk0 : k = 0
                · subst hk0
                  gi_wp2
                  exact ⟨HFIN.out.1, HFIN.out.2.1, HFIN.out.2.2.1, HFIN.out.2.2.2⟩
                · have hk0' : ¬ (k : Int) = 0 := by omega
                  have hk0'' : ((k : Int) == 0) = false := by simpa using hk0'
                  gi_wp2
                  exact ⟨HFIN.out.1, HFIN.out.2.1, HFIN.out.2.2.1, HFIN.out.2.2.2⟩
              case stop3 =>
                rintro c pre' W' hpre hx
                rcases hx with ⟨_, hno⟩ | ⟨rfl, hk0, hj⟩
                · exact absurd hpre hno
                · clear hpre
                  have HFIN : Hid (KeepsFrom W7.heap.size W8 (W'.setCell ⟨Kb, 0, none⟩ (.int .i64 ((k : Int) + 1))) ∧ KpOf S W8 (W'.setCell ⟨Kb, 0, none⟩ (.int .i64 ((k : Int) + 1))) ∧ RI S w4 w (W'.setCell ⟨Kb, 0, none⟩ (.int .i64 ((k : Int) + 1))) B E V A Kb early vo rs vc (.func (.func gf) #[] lb) ((pre ++ [x]).length : Nat) ∧ (W'.setCell ⟨Kb, 0, none⟩ (.int .i64 ((k : Int) + 1))).heap[D]? = some (.deferred (some []))) := by
                    have e : (((pre ++ [x]).length : Nat) : Int) = (k : Int) + 1 := by rw [List.length_append, ← HKL.out]; simp
                    rw [e]
                    exact ⟨hj.2.2.2.trans ((KeepsOthers.setCell _ _ _).from _), kp_t hj.2.2.1 (kp_set W' ⟨Kb, 0, none⟩ _ HORD.out.2.2.2.2.2.2), hj.1.1.setK HORD.out _, (KeepsOthers.setCell W' ⟨Kb, 0, none⟩ _).same D _ hj.1.2 rfl⟩
                  have e1 := hj.1.1.bk.cell
                  have e2 := hj.1.1.bk.frozen
                  have e3 := hj.2.1.cell
                  have e4 := hj.1.1.bv.cell
                  have e5 := hj.1.1.br.cell
                  have e6 := hj.1.1.br.frozen
                  clear hj
                  have hk0' : ¬ (k : Int) = 0 := by omega
                  have hk0'' : ((k : Int) == 0) = false := by simpa using hk0'
                  gi_wp2
                  exact ⟨HFIN.out.1, HFIN.out.2.1, HFIN.out.2.2.1, HFIN.out.2.2.2⟩
            · subst h1
              have h2' : ¬ (y : Int) = (v : Int) := by omega
              have h2'' : ((y : Int) == (v : Int)) = false := by simpa using h2'
              gi_wp2
              exact ⟨(KeepsOthers.setCell _ _ _).from _, rfl, fun hp => by have := HXX.out hp; omega⟩
          · have h1' : ¬ (z : Int) = (u : Int) := by omega
            have h1'' : ((z : Int) == (u : Int)) = false := by simpa using h1'
            gi_wp2
            exact ⟨(KeepsOthers.setCell _ _ _).from _, rfl, fun hp => by have := HXX.out hp; omega⟩
        case done2 =>
          rintro D2 ys W9 hD2 hys ⟨hR, hDD⟩ hK2
          rw [hys] at hR
          have c1 := hR.bv.cell
          have c2 := hR.bk.cell
          have HR9 := hidM hR
          have HK2 := hidM hK2
          have HDD := hidM hDD
          have HD2 := hidM hD2
          clear hR hK2 hDD hD2 hys
          go_wp2_with fail
          go_at_call 10
          refine (fixed_any W9 (HT.out.kept (Keeps.below_none HR9.out.be_) id)).mono ?_
          rintro e w11 ⟨rfl, hk⟩
          have hb := box_keeps HR9.out.br hk id
          have b1 := hb.cell
          have b2 := hb.frozen
          have HK5 : Hid ((w11.setCell ⟨B + 1, 0, none⟩ (.bool true)).heap[D2]? = some (.deferred (some []))) := (KeepsOthers.setCell w11 ⟨B + 1, 0, none⟩ (.bool true)).same D2 _ ((hk.block D2 (Array.getElem?_eq_some_iff.1 HK2.out).1 id).trans HK2.out) rfl
          have HD5 : Hid ((w11.setCell ⟨B + 1, 0, none⟩ (.bool true)).heap[D]? = some (.deferred (some []))) := (KeepsOthers.setCell w11 ⟨B + 1, 0, none⟩ (.bool true)).same D _ ((hk.block D (Array.getElem?_eq_some_iff.1 HDD.out).1 id).trans HDD.out) rfl
          have HB5 : Hid (Boxed (w11.setCell ⟨B + 1, 0, none⟩ (.bool true)) (B + 1) 4 (.bool true)) := Boxed.set _ hb
          have HX5 : Hid (Keeps w (w11.setCell ⟨B + 1, 0, none⟩ (.bool true)) (fun _ => False)) := ((Keeps.below_none HR9.out.be_).trans hk fun _ _ h => h).setCell (p := ⟨B + 1, 0, none⟩) (fun h => by have := HN.out; simp at h; omega) _
          clear hb hk HR9 c1 c2
          go_wp2
          have hDD2 : D ≠ D2 := by have h1 := HD7.out; have h2 := HD2.out; omega
          have hK6 : ((w11.setCell ⟨B + 1, 0, none⟩ (.bool true)).putObj D2 (.deferred none)).heap[D]? = some (.deferred (some [])) := by
            have := (Keeps.ofGrown (grownBy_putObj' (w11.setCell ⟨B + 1, 0, none⟩ (.bool true)) D2 (.deferred none))).block D (Array.getElem?_eq_some_iff.1 HD5.out).1 (fun e => hDD2 (by cases e; rfl))
            exact this.trans HD5.out
          have hne2 : B + 1 ≠ D2 := by have h1 := HD7.out; have h2 := HD2.out; have h3 := HDK.out; have h4 := HN.out; omega
          have hne1 : B + 1 ≠ D := by have h3 := HDK.out; have h4 := HN.out; omega
          have hb6 := HB5.out.kept (grownBy_putObj' _ D2 (.deferred none)) (fun e => hne2 (by cases e; rfl))
          have hz6 := (hb6.kept (grownBy_putObj' _ D (.deferred none)) (fun e => hne1 (by cases e; rfl))).cell
          have hle2 : w.heap.size ≤ D2 := by have h1 := HD7.out; have h2 := HD2.out; have h3 := HDK.out; omega
          have hbl := ((HX5.out.below' (Nat.le_refl _)).trans (belowK_b (w := w) (Nat.le_refl _) _ D2 _ (.deferred none) hle2 HK5.out rfl rfl)).trans (belowK_b (w := w) (Nat.le_refl _) _ D _ (.deferred none) HDK.out.2 hK6 rfl rfl)
          refine ⟨by simp, .inl ⟨_, _, rfl, run_takeDeferred HK5.out, ?_⟩⟩
          refine ⟨by simp, .inl ⟨_, _, rfl, run_takeDeferred hK6, ?_⟩⟩
          refine ⟨.bool true, ?_, rfl, Keeps.below_none hbl⟩
          simp [results, Tryd.f5, go_sem, hz6]
        case stop2 =>
          rintro D2 c pre W9 hD2 hpre ⟨_, hno⟩ hK2
          exact absurd hpre hno
      case stop =>
        rintro D c pre W hD hpre hx hK
        rcases hx with ⟨_, hno⟩ | ⟨rfl, he, hR⟩
        · exact absurd hpre hno
        · have HR0 : Hid (RI S w4 w (W.setCell ⟨Kb, 0, none⟩ (.int .i64 0)) B E V A Kb early vo rs vc (.func (.func gf) #[] lb) 0) := hR.setK HORD.out 0
          have HKD : Hid ((W.setCell ⟨Kb, 0, none⟩ (.int .i64 0)).heap[D]? = some (.deferred (some []))) := (KeepsOthers.setCell W ⟨Kb, 0, none⟩ (.int .i64 0)).same D _ hK rfl
          rw [he] at hR
          have c0 := hR.be.cell
          have c1 := hR.bv.cell
          have c2 := hR.bk.cell
          have c3 := hR.bk.frozen
          have c4 := HR0.out.ba.cell
          have HD := hidM hD
          clear hR hD hK hpre he
          refine wpIn_wide.2 ?_
          by_cases hq : early = (rs.length : Int)
          · subst hq
            go_wp2
            obtain ⟨W7, hW⟩ : ∃ W7, W7 = W.setCell ⟨Kb, 0, none⟩ (.int .i64 0) := ⟨_, rfl⟩
            rw [← hW] at HR0 HKD ⊢
            clear c0 c1 c2 c3 c4 hW
            have HD7 : Hid (D < W7.heap.size) := (Array.getElem?_eq_some_iff.1 HKD.out).1
            have HDK : Hid (Kb < D ∧ w.heap.size ≤ D) := by have h1 := HD.out; have h2 := HZ6.out; have h3 := HLE6.out.1; exact ⟨by omega, by omega⟩
            have HLE7 : Hid (w.heap.size ≤ W7.heap.size ∧ Kb < W7.heap.size ∧ ∀ b, S b → b < Kb) := ⟨HR0.out.be_.size, HR0.out.bk.lt, HSK.out⟩
            have HSM7 : Hid (∀ b, S b → b < W7.heap.size) := fun b hb => by have := HSK.out b hb; have := HR0.out.bk.lt; omega
            have HS7 := hidM (HIT.out 9 (by omega) W7 HR0.out.kp)
            refine (wpIn_wide (n := 10)).1 ?_
            refine' rangeH1 rfl (by decide) (gf := gf) (lb := lb) rfl trivial HEN.out HS7.out kp_t (kp_b HSM7.out) (Below.refl _ _) (fun _ => rfl)
              (fun pre W' => RI S w4 w W' B E V A Kb (rs.length : Int) vo rs vc (.func (.func gf) #[] lb) pre.length ∧ W'.heap[D]? = some (.deferred (some [])))
              (fun c pre W' => c = .ret ∧ ¬ (pre <+: rs))
              (fun s X Y row hs hg hr => ⟨RI.turn HLE7.out hs.1 hg hr, def_turn HD7.out hs.2 hg hr⟩)
              (fun c s X Y row hs hg hr => hs)
              ⟨HR0.out, HKD.out⟩ (fun _ _ _ => rfl) _ ?assign2 ?body2 ?done2 ?stop2
            case assign2 =>
              intro l x W' K hK
              simp only [encR]
              gi_wp2
              exact hK
            case body2 =>
              rintro l pre x W8 hl ⟨r, hr⟩ ⟨hR, hDD⟩ hlt2
              obtain ⟨k, hkl⟩ : ∃ k, k = pre.length := ⟨_, rfl⟩
              obtain ⟨g, z, y, hvo, c0, c1, hz, hy, hvc, hpx⟩ := want_at hR HRB.out.2 pre k hkl.symm (by omega)
              have HPX : Hid (∀ x, pre ++ [x] <+: rs → x = (z, y)) := hpx
              have hrl := HRB.out.1
              have HKL : Hid (k = pre.length) := hkl
              have hm1 : min x.1 1000000000 ≤ 1000000000 := Nat.min_le_right _ _
              have hm2 : min x.2 1000000000 ≤ 1000000000 := Nat.min_le_right _ _
              obtain ⟨u, hu⟩ : ∃ u, u = min x.1 1000000000 := ⟨_, rfl⟩
              obtain ⟨v, hv⟩ : ∃ v, v = min x.2 1000000000 := ⟨_, rfl⟩
              rw [← hu] at hm1 ⊢
              rw [← hv] at hm2 ⊢
              have HXX : Hid (pre ++ [x] <+: rs → u = z ∧ v = y) := fun hp => by
                have := HPX.out x hp
                rw [this] at hu hv
                simp only at hu hv
                exact ⟨by omega, by omega⟩
              clear hu hv hpx HPX
              rw [← hkl] at hR hlt2
              clear hkl
              have HR := hidM hR
              have HVO : Hid (vo = some ⟨g, 0, none⟩) := hvo
              have d2 := hR.bv.cell
              rw [hvo] at d2
              clear hvo
              have d4 := hR.bk.cell
              have d0 := hR.br.cell
              have f0 := hR.br.frozen
              have dA := fun o => cellAlloc o hR.ba.cell
              have HDD := hidM hDD
              have HLR : Hid (∃ r, W8.heap[l]? = some (.loop r)) := ⟨r, hr⟩
              have HLW := hidM hl
              clear hR hDD hr hl
              have hkn : ¬ (rs.length : Int) ≤ (k : Int) := by omega
              by_cases h1 : z = u
              · by_cases h2 : y = v
                · subst h1 h2
                  gi_wp2
                  clear c0 c1 d2 d4 d0 f0 dA HXX
                  obtain ⟨W10, hW⟩ : ∃ W10, W10 = W8.alloc (.cells #[.int .i64 0] 3) := ⟨_, rfl⟩
                  rw [← hW]
                  have hk : Keeps W8 W10 (fun _ => False) := by rw [hW]; exact Keeps.none_alloc _ _
                  have BJ : Boxed W10 W8.heap.size 3 (.int .i64 0) := by rw [hW]; exact Boxed.new W8 3 _
                  have hKO : KeepsFrom W7.heap.size W8 W10 := by rw [hW]; exact (KeepsOthers.alloc _ _).from _
                  obtain ⟨r, hr⟩ := HLR.out
                  have hr' : W10.heap[l]? = some (.loop r) := (hk.block l (Array.getElem?_eq_some_iff.1 hr).1 id).trans hr
                  have HR10 : Hid (RI S w4 w W10 B E V A Kb (rs.length : Int) vo rs vc (.func (.func gf) #[] lb) k) := HR.out.keep hk HSK.out
                  have HD10 : Hid (W10.heap[D]? = some (.deferred (some []))) := (hk.block D (Array.getElem?_eq_some_iff.1 HDD.out).1 id).trans HDD.out
                  have HKP10 : Hid (KpOf S W8 W10) := fun b hb => hk.block b (by have := HSK.out b hb; have := HR.out.bk.lt; omega) id
                  obtain ⟨Jb, hJb⟩ : ∃ Jb, Jb = W8.heap.size := ⟨_, rfl⟩
                  have HJO : Hid (B + 1 ≠ Jb ∧ E ≠ Jb ∧ V ≠ Jb ∧ A ≠ Jb ∧ Kb ≠ Jb ∧ w.heap.size ≤ Jb ∧ (∀ g, (Value.slice vo rs.length vc).ownBlock = some g → g ≠ Jb) ∧ ¬ S Jb) := by
                    have q1 := HR.out.br.lt
                    have q2 := HR.out.be.lt
                    have q3 := HR.out.bv.lt
                    have q4 := HR.out.ba.lt
                    have q5 := HR.out.bk.lt
                    have q6 := HR.out.be_.size
                    exact ⟨by omega, by omega, by omega, by omega, by omega, by omega, fun g e => by have := own_ltS HR.out.rw g e; omega, fun h => by have := HSK.out _ h; omega⟩
                  have HSM10 : Hid (∀ b, S b → b < W10.heap.size) := fun b hb => by have := HSK.out b hb; have := HR10.out.bk.lt; omega
                  have HLE10 : Hid (w.heap.size ≤ W10.heap.size ∧ Kb < W10.heap.size ∧ ∀ b, S b → b < Kb) := ⟨HR10.out.be_.size, HR10.out.bk.lt, HSK.out⟩
                  have HD10L : Hid (D < W10.heap.size) := (Array.getElem?_eq_some_iff.1 HD10.out).1
                  have HSZ10 : Hid (W8.heap.size ≤ W10.heap.size) := hk.size
                  have HS10 := hidM ((HIT.out 7 (by omega) W10 HR10.out.kp).inRound l)
                  have HJ0 : Hid (RJ S w4 w W8 B E V A Kb Jb D W7.heap.size (rs.length : Int) vo rs vc (.func (.func gf) #[] lb) k 0 W10) := ⟨⟨HR10.out, HD10.out⟩, by rw [hJb]; exact BJ, HKP10.out, hKO⟩
                  rw [← hJb]
                  clear hW hk BJ hKO hJb hr
                  refine' rangeN1 (l₀ := l) (r₀ := r) rfl hr' (by decide) (gf := gf) (lb := lb) rfl trivial HEN.out HS10.out kp_t (kp_b HSM10.out) (Below.refl _ _) (fun _ => rfl)
                    (fun pre' W' => RJ S w4 w W8 B E V A Kb Jb D W7.heap.size (rs.length : Int) vo rs vc (.func (.func gf) #[] lb) k pre'.length W')
                    (fun c pre' W' => (c = .ret ∧ ¬ (pre' <+: rs)) ∨ (c = .exit 6 ∧ 0 < k ∧ RJ S w4 w W8 B E V A Kb Jb D W7.heap.size (rs.length : Int) vo rs vc (.func (.func gf) #[] lb) k pre'.length W'))
                    (fun s X Y row hs hg hr => RJ.turn HLE10.out HD10L.out HSZ10.out hs hg hr)
                    (fun c s X Y row hs hg hr => hs.imp id fun h => ⟨h.1, h.2.1, RJ.turn HLE10.out HD10L.out HSZ10.out h.2.2 hg hr⟩)
                    HJ0.out (fun _ _ _ => rfl) _ ?assign3 ?body3 ?done3 ?stop3
                  case assign3 =>
                    intro l2 x' W' K hK
                    simp only [encR]
                    gi_wp2
                    exact hK
                  case body3 =>
                    rintro l2 pre' x' W' hj hlt3
                    have hR := hj.1.1
                    obtain ⟨j, hkl⟩ : ∃ j, j = pre'.length := ⟨_, rfl⟩
                    obtain ⟨g, z, y, hvo, c0, c1, hz, hy, hvc, hpx⟩ := want_at hR HRB.out.2 pre' j hkl.symm (by omega)
                    have HPX : Hid (∀ x, pre' ++ [x] <+: rs → x = (z, y)) := hpx
                    have HKL2 : Hid (j = pre'.length) := hkl
                    have hm1 : min x'.1 1000000000 ≤ 1000000000 := Nat.min_le_right _ _
                    have hm2 : min x'.2 1000000000 ≤ 1000000000 := Nat.min_le_right _ _
                    obtain ⟨u, hu⟩ : ∃ u, u = min x'.1 1000000000 := ⟨_, rfl⟩
                    obtain ⟨v, hv⟩ : ∃ v, v = min x'.2 1000000000 := ⟨_, rfl⟩
                    rw [← hu] at hm1 ⊢
                    rw [← hv] at hm2 ⊢
                    have HXX : Hid (pre' ++ [x'] <+: rs → u = z ∧ v = y) := fun hp => by
                      have := HPX.out x' hp
                      rw [this] at hu hv
                      simp only at hu hv
                      exact ⟨by omega, by omega⟩
                    clear hu hv hpx HPX
                    rw [← hkl] at hj hlt3
                    clear hkl
                    have HJ := hidM hj
                    have d2 := hR.bv.cell
                    rw [hvo] at d2
                    clear hvo
                    have d4 := hR.bk.cell
                    have d0 := hR.br.cell
                    have f0 := hR.br.frozen
                    have dJ := hj.2.1.cell
                    have fJ := hj.2.1.frozen
                    clear hR hj
                    have hjn : ¬ (rs.length : Int) ≤ (j : Int) := by omega
                    by_cases h1 : z = u
                    · by_cases h2 : y = v
                      · subst h1 h2
                        have HST : Hid (RJ S w4 w W8 B E V A Kb Jb D W7.heap.size (rs.length : Int) vo rs vc (.func (.func gf) #[] lb) k (pre' ++ [x']).length (W'.setCell ⟨Jb, 0, none⟩ (.int .i64 ((j : Int) + 1)))) := by
                          have e : (((pre' ++ [x']).length : Nat) : Int) = (j : Int) + 1 := by rw [List.length_append, ← HKL2.out]; simp
                          refine ⟨⟨HJ.out.1.1.setJ HJO.out _, (KeepsOthers.setCell W' ⟨Jb, 0, none⟩ _).same D _ HJ.out.1.2 rfl⟩, ?_, kp_t HJ.out.2.2.1 (kp_set W' ⟨Jb, 0, none⟩ _ HJO.out.2.2.2.2.2.2.2), HJ.out.2.2.2.trans ((KeepsOthers.setCell _ _ _).from _)⟩
                          rw [e]
                          exact Boxed.set _ HJ.out.2.1
                        have dK := HST.out.1.1.bk.cell
                        clear HJ
                        by_cases h3 : (3 : Int) < (j : Int) + 1
                        · by_cases h4 : (0 : Int) < (k : Int)
                          · gi_wp2
                            have hk1 : 0 < k := by omega
                            first | exact ⟨(KeepsOthers.setCell _ _ _).from _, .inr ⟨rfl, hk1, HST.out⟩⟩ | exact ⟨(KeepsOthers.setCell _ _ _).from _, hk1, HST.out⟩ | exact ⟨(KeepsOthers.setCell _ _ _).from _, .inr ⟨hk1, HST.out⟩⟩ | exact ⟨(KeepsOthers.setCell _ _ _).from _, .inr ⟨rfl, HST.out⟩⟩
                          · gi_wp2
                            exact ⟨(KeepsOthers.setCell _ _ _).from _, kp_set W' ⟨Jb, 0, none⟩ _ HJO.out.2.2.2.2.2.2.2, HST.out⟩
                        · gi_wp2
                          exact ⟨(KeepsOthers.setCell _ _ _).from _, kp_set W' ⟨Jb, 0, none⟩ _ HJO.out.2.2.2.2.2.2.2, HST.out⟩
                      · subst h1
                        have h2' : ¬ (y : Int) = (v : Int) := by omega
                        have h2'' : ((y : Int) == (v : Int)) = false := by simpa using h2'
                        gi_wp2
                        exact ⟨(KeepsOthers.setCell _ _ _).from _, .inl ⟨rfl, fun hp => by have := HXX.out hp; omega⟩⟩
                    · have h1' : ¬ (z : Int) = (u : Int) := by omega
                      have h1'' : ((z : Int) == (u : Int)) = false := by simpa using h1'
                      gi_wp2
                      exact ⟨(KeepsOthers.setCell _ _ _).from _, .inl ⟨rfl, fun hp => by have := HXX.out hp; omega⟩⟩
                  case done3 =>
                    rintro ys W' hys hj
                    rw [hys] at hj
                    clear hys ys
                    have HFIN : Hid (KeepsFrom W7.heap.size W8 (W'.setCell ⟨Kb, 0, none⟩ (.int .i64 ((k : Int) + 1))) ∧ KpOf S W8 (W'.setCell ⟨Kb, 0, none⟩ (.int .i64 ((k : Int) + 1))) ∧ RI S w4 w (W'.setCell ⟨Kb, 0, none⟩ (.int .i64 ((k : Int) + 1))) B E V A Kb (rs.length : Int) vo rs vc (.func (.func gf) #[] lb) ((pre ++ [x]).length : Nat) ∧ (W'.setCell ⟨Kb, 0, none⟩ (.int .i64 ((k : Int) + 1))).heap[D]? = some (.deferred (some []))) := by
                      have e : (((pre ++ [x]).length : Nat) : Int) = (k : Int) + 1 := by rw [List.length_append, ← HKL.out]; simp
                      rw [e]
                      exact ⟨hj.2.2.2.trans ((KeepsOthers.setCell _ _ _).from _), kp_t hj.2.2.1 (kp_set W' ⟨Kb, 0, none⟩ _ HORD.out.2.2.2.2.2.2), hj.1.1.setK HORD.out _, (KeepsOthers.setCell W' ⟨Kb, 0, none⟩ _).same D _ hj.1.2 rfl⟩
                    have e1 := hj.1.1.bk.cell
                    have e2 := hj.1.1.bk.frozen
                    have e3 := hj.2.1.cell
                    have e4 := hj.1.1.bv.cell
                    have e5 := hj.1.1.br.cell
                    have e6 := hj.1.1.br.frozen
                    clear hj
                    by_cases hk0 : k = 0
                    · subst hk0
                      gi_wp2
                      exact ⟨HFIN.out.1, HFIN.out.2.1, HFIN.out.2.2.1, HFIN.out.2.2.2⟩
                    · have hk0' : ¬ (k : Int) = 0 := by omega
                      have hk0'' : ((k : Int) == 0) = false := by simpa using hk0'
                      gi_wp2
                      exact ⟨HFIN.out.1, HFIN.out.2.1, HFIN.out.2.2.1, HFIN.out.2.2.2⟩
                  case stop3 =>
                    rintro c pre' W' hpre hx
                    rcases hx with ⟨_, hno⟩ | ⟨rfl, hk0, hj⟩
                    · exact absurd hpre hno
                    · clear hpre
                      have HFIN : Hid (KeepsFrom W7.heap.size W8 (W'.setCell ⟨Kb, 0, none⟩ (.int .i64 ((k : Int) + 1))) ∧ KpOf S W8 (W'.setCell ⟨Kb, 0, none⟩ (.int .i64 ((k : Int) + 1))) ∧ RI S w4 w (W'.setCell ⟨Kb, 0, none⟩ (.int .i64 ((k : Int) + 1))) B E V A Kb (rs.length : Int) vo rs vc (.func (.func gf) #[] lb) ((pre ++ [x]).length : Nat) ∧ (W'.setCell ⟨Kb, 0, none⟩ (.int .i64 ((k : Int) + 1))).heap[D]? = some (.deferred (some []))) := by
                        have e : (((pre ++ [x]).length : Nat) : Int) = (k : Int) + 1 := by rw [List.length_append, ← HKL.out]; simp
                        rw [e]
                        exact ⟨hj.2.2.2.trans ((KeepsOthers.setCell _ _ _).from _), kp_t hj.2.2.1 (kp_set W' ⟨Kb, 0, none⟩ _ HORD.out.2.2.2.2.2.2), hj.1.1.setK HORD.out _, (KeepsOthers.setCell W' ⟨Kb, 0, none⟩ _).same D _ hj.1.2 rfl⟩
                      have e1 := hj.1.1.bk.cell
                      have e2 := hj.1.1.bk.frozen
                      have e3 := hj.2.1.cell
                      have e4 := hj.1.1.bv.cell
                      have e5 := hj.1.1.br.cell
                      have e6 := hj.1.1.br.frozen
                      clear hj
                      have hk0' : ¬ (k : Int) = 0 := by omega
                      have hk0'' : ((k : Int) == 0) = false := by simpa using hk0'
                      gi_wp2
                      exact ⟨HFIN.out.1, HFIN.out.2.1, HFIN.out.2.2.1, HFIN.out.2.2.2⟩
                · subst h1
                  have h2' : ¬ (y : Int) = (v : Int) := by omega
                  have h2'' : ((y : Int) == (v : Int)) = false := by simpa using h2'
                  gi_wp2
                  exact ⟨(KeepsOthers.setCell _ _ _).from _, rfl, fun hp => by have := HXX.out hp; omega⟩
              · have h1' : ¬ (z : Int) = (u : Int) := by omega
                have h1'' : ((z : Int) == (u : Int)) = false := by simpa using h1'
                gi_wp2
                exact ⟨(KeepsOthers.setCell _ _ _).from _, rfl, fun hp => by have := HXX.out hp; omega⟩
            case done2 =>
              rintro D2 ys W9 hD2 hys ⟨hR, hDD⟩ hK2
              rw [hys] at hR
              have c1 := hR.bv.cell
              have c2 := hR.bk.cell
              have HR9 := hidM hR
              have HK2 := hidM hK2
              have HDD := hidM hDD
              have HD2 := hidM hD2
              clear hR hK2 hDD hD2 hys
              go_wp2_with fail
              go_at_call 10
              refine (fixed_any W9 (HT.out.kept (Keeps.below_none HR9.out.be_) id)).mono ?_
              rintro e w11 ⟨rfl, hk⟩
              have hb := box_keeps HR9.out.br hk id
              have b1 := hb.cell
              have b2 := hb.frozen
              have HK5 : Hid ((w11.setCell ⟨B + 1, 0, none⟩ (.bool true)).heap[D2]? = some (.deferred (some []))) := (KeepsOthers.setCell w11 ⟨B + 1, 0, none⟩ (.bool true)).same D2 _ ((hk.block D2 (Array.getElem?_eq_some_iff.1 HK2.out).1 id).trans HK2.out) rfl
              have HD5 : Hid ((w11.setCell ⟨B + 1, 0, none⟩ (.bool true)).heap[D]? = some (.deferred (some []))) := (KeepsOthers.setCell w11 ⟨B + 1, 0, none⟩ (.bool true)).same D _ ((hk.block D (Array.getElem?_eq_some_iff.1 HDD.out).1 id).trans HDD.out) rfl
              have HB5 : Hid (Boxed (w11.setCell ⟨B + 1, 0, none⟩ (.bool true)) (B + 1) 4 (.bool true)) := Boxed.set _ hb
              have HX5 : Hid (Keeps w (w11.setCell ⟨B + 1, 0, none⟩ (.bool true)) (fun _ => False)) := ((Keeps.below_none HR9.out.be_).trans hk fun _ _ h => h).setCell (p := ⟨B + 1, 0, none⟩) (fun h => by have := HN.out; simp at h; omega) _
              clear hb hk HR9 c1 c2
              go_wp2
              have hDD2 : D ≠ D2 := by have h1 := HD7.out; have h2 := HD2.out; omega
              have hK6 : ((w11.setCell ⟨B + 1, 0, none⟩ (.bool true)).putObj D2 (.deferred none)).heap[D]? = some (.deferred (some [])) := by
                have := (Keeps.ofGrown (grownBy_putObj' (w11.setCell ⟨B + 1, 0, none⟩ (.bool true)) D2 (.deferred none))).block D (Array.getElem?_eq_some_iff.1 HD5.out).1 (fun e => hDD2 (by cases e; rfl))
                exact this.trans HD5.out
              have hne2 : B + 1 ≠ D2 := by have h1 := HD7.out; have h2 := HD2.out; have h3 := HDK.out; have h4 := HN.out; omega
              have hne1 : B + 1 ≠ D := by have h3 := HDK.out; have h4 := HN.out; omega
              have hb6 := HB5.out.kept (grownBy_putObj' _ D2 (.deferred none)) (fun e => hne2 (by cases e; rfl))
              have hz6 := (hb6.kept (grownBy_putObj' _ D (.deferred none)) (fun e => hne1 (by cases e; rfl))).cell
              have hle2 : w.heap.size ≤ D2 := by have h1 := HD7.out; have h2 := HD2.out; have h3 := HDK.out; omega
              have hbl := ((HX5.out.below' (Nat.le_refl _)).trans (belowK_b (w := w) (Nat.le_refl _) _ D2 _ (.deferred none) hle2 HK5.out rfl rfl)).trans (belowK_b (w := w) (Nat.le_refl _) _ D _ (.deferred none) HDK.out.2 hK6 rfl rfl)
              refine ⟨by simp, .inl ⟨_, _, rfl, run_takeDeferred HK5.out, ?_⟩⟩
              refine ⟨by simp, .inl ⟨_, _, rfl, run_takeDeferred hK6, ?_⟩⟩
              refine ⟨.bool true, ?_, rfl, Keeps.below_none hbl⟩
              simp [results, Tryd.f5, go_sem, hz6]
            case stop2 =>
              rintro D2 c pre W9 hD2 hpre ⟨_, hno⟩ hK2
              exact absurd hpre hno
          · have hq' : (early == (rs.length : Int)) = false := by simpa using hq
            go_wp2
            obtain ⟨W7, hW⟩ : ∃ W7, W7 = W.setCell ⟨Kb, 0, none⟩ (.int .i64 0) := ⟨_, rfl⟩
            rw [← hW] at HR0 HKD ⊢
            clear c0 c1 c2 c3 c4 hW
            have HD7 : Hid (D < W7.heap.size) := (Array.getElem?_eq_some_iff.1 HKD.out).1
            have HDK : Hid (Kb < D ∧ w.heap.size ≤ D) := by have h1 := HD.out; have h2 := HZ6.out; have h3 := HLE6.out.1; exact ⟨by omega, by omega⟩
            have HLE7 : Hid (w.heap.size ≤ W7.heap.size ∧ Kb < W7.heap.size ∧ ∀ b, S b → b < Kb) := ⟨HR0.out.be_.size, HR0.out.bk.lt, HSK.out⟩
            have HSM7 : Hid (∀ b, S b → b < W7.heap.size) := fun b hb => by have := HSK.out b hb; have := HR0.out.bk.lt; omega
            have HS7 := hidM (HIT.out 9 (by omega) W7 HR0.out.kp)
            refine (wpIn_wide (n := 10)).1 ?_
            refine' rangeH1 rfl (by decide) (gf := gf) (lb := lb) rfl trivial HEN.out HS7.out kp_t (kp_b HSM7.out) (Below.refl _ _) (fun _ => rfl)
              (fun pre W' => RI S w4 w W' B E V A Kb early vo rs vc (.func (.func gf) #[] lb) pre.length ∧ W'.heap[D]? = some (.deferred (some [])))
              (fun c pre W' => c = .ret ∧ ¬ (pre <+: rs))
              (fun s X Y row hs hg hr => ⟨RI.turn HLE7.out hs.1 hg hr, def_turn HD7.out hs.2 hg hr⟩)
              (fun c s X Y row hs hg hr => hs)
              ⟨HR0.out, HKD.out⟩ (fun _ _ _ => rfl) _ ?assign2 ?body2 ?done2 ?stop2
            case assign2 =>
              intro l x W' K hK
              simp only [encR]
              gi_wp2
              exact hK
            case body2 =>
              rintro l pre x W8 hl ⟨r, hr⟩ ⟨hR, hDD⟩ hlt2
              obtain ⟨k, hkl⟩ : ∃ k, k = pre.length := ⟨_, rfl⟩
              obtain ⟨g, z, y, hvo, c0, c1, hz, hy, hvc, hpx⟩ := want_at hR HRB.out.2 pre k hkl.symm (by omega)
              have HPX : Hid (∀ x, pre ++ [x] <+: rs → x = (z, y)) := hpx
              have hrl := HRB.out.1
              have HKL : Hid (k = pre.length) := hkl
              have hm1 : min x.1 1000000000 ≤ 1000000000 := Nat.min_le_right _ _
              have hm2 : min x.2 1000000000 ≤ 1000000000 := Nat.min_le_right _ _
              obtain ⟨u, hu⟩ : ∃ u, u = min x.1 1000000000 := ⟨_, rfl⟩
              obtain ⟨v, hv⟩ : ∃ v, v = min x.2 1000000000 := ⟨_, rfl⟩
              rw [← hu] at hm1 ⊢
              rw [← hv] at hm2 ⊢
              have HXX : Hid (pre ++ [x] <+: rs → u = z ∧ v = y) := fun hp => by
                have := HPX.out x hp
                rw [this] at hu hv
                simp only at hu hv
                exact ⟨by omega, by omega⟩
              clear hu hv hpx HPX
              rw [← hkl] at hR hlt2
              clear hkl
              have HR := hidM hR
              have HVO : Hid (vo = some ⟨g, 0, none⟩) := hvo
              have d2 := hR.bv.cell
              rw [hvo] at d2
              clear hvo
              have d4 := hR.bk.cell
              have d0 := hR.br.cell
              have f0 := hR.br.frozen
              have dA := fun o => cellAlloc o hR.ba.cell
              have HDD := hidM hDD
              have HLR : Hid (∃ r, W8.heap[l]? = some (.loop r)) := ⟨r, hr⟩
              have HLW := hidM hl
              clear hR hDD hr hl
              have hkn : ¬ (rs.length : Int) ≤ (k : Int) := by omega
              by_cases h1 : z = u
              · by_cases h2 : y = v
                · subst h1 h2
                  gi_wp2
                  clear c0 c1 d2 d4 d0 f0 dA HXX
                  obtain ⟨W10, hW⟩ : ∃ W10, W10 = W8.alloc (.cells #[.int .i64 0] 3) := ⟨_, rfl⟩
                  rw [← hW]
                  have hk : Keeps W8 W10 (fun _ => False) := by rw [hW]; exact Keeps.none_alloc _ _
                  have BJ : Boxed W10 W8.heap.size 3 (.int .i64 0) := by rw [hW]; exact Boxed.new W8 3 _
                  have hKO : KeepsFrom W7.heap.size W8 W10 := by rw [hW]; exact (KeepsOthers.alloc _ _).from _
                  obtain ⟨r, hr⟩ := HLR.out
                  have hr' : W10.heap[l]? = some (.loop r) := (hk.block l (Array.getElem?_eq_some_iff.1 hr).1 id).trans hr
                  have HR10 : Hid (RI S w4 w W10 B E V A Kb early vo rs vc (.func (.func gf) #[] lb) k) := HR.out.keep hk HSK.out
                  have HD10 : Hid (W10.heap[D]? = some (.deferred (some []))) := (hk.block D (Array.getElem?_eq_some_iff.1 HDD.out).1 id).trans HDD.out
                  have HKP10 : Hid (KpOf S W8 W10) := fun b hb => hk.block b (by have := HSK.out b hb; have := HR.out.bk.lt; omega) id
                  obtain ⟨Jb, hJb⟩ : ∃ Jb, Jb = W8.heap.size := ⟨_, rfl⟩
                  have HJO : Hid (B + 1 ≠ Jb ∧ E ≠ Jb ∧ V ≠ Jb ∧ A ≠ Jb ∧ Kb ≠ Jb ∧ w.heap.size ≤ Jb ∧ (∀ g, (Value.slice vo rs.length vc).ownBlock = some g → g ≠ Jb) ∧ ¬ S Jb) := by
                    have q1 := HR.out.br.lt
                    have q2 := HR.out.be.lt
                    have q3 := HR.out.bv.lt
                    have q4 := HR.out.ba.lt
                    have q5 := HR.out.bk.lt
                    have q6 := HR.out.be_.size
                    exact ⟨by omega, by omega, by omega, by omega, by omega, by omega, fun g e => by have := own_ltS HR.out.rw g e; omega, fun h => by have := HSK.out _ h; omega⟩
                  have HSM10 : Hid (∀ b, S b → b < W10.heap.size) := fun b hb => by have := HSK.out b hb; have := HR10.out.bk.lt; omega
                  have HLE10 : Hid (w.heap.size ≤ W10.heap.size ∧ Kb < W10.heap.size ∧ ∀ b, S b → b < Kb) := ⟨HR10.out.be_.size, HR10.out.bk.lt, HSK.out⟩
                  have HD10L : Hid (D < W10.heap.size) := (Array.getElem?_eq_some_iff.1 HD10.out).1
                  have HSZ10 : Hid (W8.heap.size ≤ W10.heap.size) := hk.size
                  have HS10 := hidM ((HIT.out 7 (by omega) W10 HR10.out.kp).inRound l)
                  have HJ0 : Hid (RJ S w4 w W8 B E V A Kb Jb D W7.heap.size early vo rs vc (.func (.func gf) #[] lb) k 0 W10) := ⟨⟨HR10.out, HD10.out⟩, by rw [hJb]; exact BJ, HKP10.out, hKO⟩
                  rw [← hJb]
                  clear hW hk BJ hKO hJb hr
                  refine' rangeN1 (l₀ := l) (r₀ := r) rfl hr' (by decide) (gf := gf) (lb := lb) rfl trivial HEN.out HS10.out kp_t (kp_b HSM10.out) (Below.refl _ _) (fun _ => rfl)
                    (fun pre' W' => RJ S w4 w W8 B E V A Kb Jb D W7.heap.size early vo rs vc (.func (.func gf) #[] lb) k pre'.length W')
                    (fun c pre' W' => (c = .ret ∧ ¬ (pre' <+: rs)) ∨ (c = .exit 6 ∧ 0 < k ∧ RJ S w4 w W8 B E V A Kb Jb D W7.heap.size early vo rs vc (.func (.func gf) #[] lb) k pre'.length W'))
                    (fun s X Y row hs hg hr => RJ.turn HLE10.out HD10L.out HSZ10.out hs hg hr)
                    (fun c s X Y row hs hg hr => hs.imp id fun h => ⟨h.1, h.2.1, RJ.turn HLE10.out HD10L.out HSZ10.out h.2.2 hg hr⟩)
                    HJ0.out (fun _ _ _ => rfl) _ ?assign3 ?body3 ?done3 ?stop3
                  case assign3 =>
                    intro l2 x' W' K hK
                    simp only [encR]
                    gi_wp2
                    exact hK
                  case body3 =>
                    rintro l2 pre' x' W' hj hlt3
                    have hR := hj.1.1
                    obtain ⟨j, hkl⟩ : ∃ j, j = pre'.length := ⟨_, rfl⟩
                    obtain ⟨g, z, y, hvo, c0, c1, hz, hy, hvc, hpx⟩ := want_at hR HRB.out.2 pre' j hkl.symm (by omega)
                    have HPX : Hid (∀ x, pre' ++ [x] <+: rs → x = (z, y)) := hpx
                    have HKL2 : Hid (j = pre'.length) := hkl
                    have hm1 : min x'.1 1000000000 ≤ 1000000000 := Nat.min_le_right _ _
                    have hm2 : min x'.2 1000000000 ≤ 1000000000 := Nat.min_le_right _ _
                    obtain ⟨u, hu⟩ : ∃ u, u = min x'.1 1000000000 := ⟨_, rfl⟩
                    obtain ⟨v, hv⟩ : ∃ v, v = min x'.2 1000000000 := ⟨_, rfl⟩
                    rw [← hu] at hm1 ⊢
                    rw [← hv] at hm2 ⊢
                    have HXX : Hid (pre' ++ [x'] <+: rs → u = z ∧ v = y) := fun hp => by
                      have := HPX.out x' hp
                      rw [this] at hu hv
                      simp only at hu hv
                      exact ⟨by omega, by omega⟩
                    clear hu hv hpx HPX
                    rw [← hkl] at hj hlt3
                    clear hkl
                    have HJ := hidM hj
                    have d2 := hR.bv.cell
                    rw [hvo] at d2
                    clear hvo
                    have d4 := hR.bk.cell
                    have d0 := hR.br.cell
                    have f0 := hR.br.frozen
                    have dJ := hj.2.1.cell
                    have fJ := hj.2.1.frozen
                    clear hR hj
                    have hjn : ¬ (rs.length : Int) ≤ (j : Int) := by omega
                    by_cases h1 : z = u
                    · by_cases h2 : y = v
                      · subst h1 h2
                        have HST : Hid (RJ S w4 w W8 B E V A Kb Jb D W7.heap.size early vo rs vc (.func (.func gf) #[] lb) k (pre' ++ [x']).length (W'.setCell ⟨Jb, 0, none⟩ (.int .i64 ((j : Int) + 1)))) := by
                          have e : (((pre' ++ [x']).length : Nat) : Int) = (j : Int) + 1 := by rw [List.length_append, ← HKL2.out]; simp
                          refine ⟨⟨HJ.out.1.1.setJ HJO.out _, (KeepsOthers.setCell W' ⟨Jb, 0, none⟩ _).same D _ HJ.out.1.2 rfl⟩, ?_, kp_t HJ.out.2.2.1 (kp_set W' ⟨Jb, 0, none⟩ _ HJO.out.2.2.2.2.2.2.2), HJ.out.2.2.2.trans ((KeepsOthers.setCell _ _ _).from _)⟩
                          rw [e]
                          exact Boxed.set _ HJ.out.2.1
                        have dK := HST.out.1.1.bk.cell
                        clear HJ
                        by_cases h3 : (3 : Int) < (j : Int) + 1
                        · by_cases h4 : (0 : Int) < (k : Int)
                          · gi_wp2
                            have hk1 : 0 < k := by omega
                            first | exact ⟨(KeepsOthers.setCell _ _ _).from _, .inr ⟨rfl, hk1, HST.out⟩⟩ | exact ⟨(KeepsOthers.setCell _ _ _).from _, hk1, HST.out⟩ | exact ⟨(KeepsOthers.setCell _ _ _).from _, .inr ⟨hk1, HST.out⟩⟩ | exact ⟨(KeepsOthers.setCell _ _ _).from _, .inr ⟨rfl, HST.out⟩⟩
                          · gi_wp2
                            exact ⟨(KeepsOthers.setCell _ _ _).from _, kp_set W' ⟨Jb, 0, none⟩ _ HJO.out.2.2.2.2.2.2.2, HST.out⟩
                        · gi_wp2
                          exact ⟨(KeepsOthers.setCell _ _ _).from _, kp_set W' ⟨Jb, 0, none⟩ _ HJO.out.2.2.2.2.2.2.2, HST.out⟩
                      · subst h1
                        have h2' : ¬ (y : Int) = (v : Int) := by omega
                        have h2'' : ((y : Int) == (v : Int)) = false := by simpa using h2'
                        gi_wp2
                        exact ⟨(KeepsOthers.setCell _ _ _).from _, .inl ⟨rfl, fun hp => by have := HXX.out hp; omega⟩⟩
                    · have h1' : ¬ (z : Int) = (u : Int) := by omega
                      have h1'' : ((z : Int) == (u : Int)) = false := by simpa using h1'
                      gi_wp2
                      exact ⟨(KeepsOthers.setCell _ _ _).from _, .inl ⟨rfl, fun hp => by have := HXX.out hp; omega⟩⟩
                  case done3 =>
                    rintro ys W' hys hj
                    rw [hys] at hj
                    clear hys ys
                    have HFIN : Hid (KeepsFrom W7.heap.size W8 (W'.setCell ⟨Kb, 0, none⟩ (.int .i64 ((k : Int) + 1))) ∧ KpOf S W8 (W'.setCell ⟨Kb, 0, none⟩ (.int .i64 ((k : Int) + 1))) ∧ RI S w4 w (W'.setCell ⟨Kb, 0, none⟩ (.int .i64 ((k : Int) + 1))) B E V A Kb early vo rs vc (.func (.func gf) #[] lb) ((pre ++ [x]).length : Nat) ∧ (W'.setCell ⟨Kb, 0, none⟩ (.int .i64 ((k : Int) + 1))).heap[D]? = some (.deferred (some []))) := by
                      have e : (((pre ++ [x]).length : Nat) : Int) = (k : Int) + 1 := by rw [List.length_append, ← HKL.out]; simp
                      rw [e]
                      exact ⟨hj.2.2.2.trans ((KeepsOthers.setCell _ _ _).from _), kp_t hj.2.2.1 (kp_set W' ⟨Kb, 0, none⟩ _ HORD.out.2.2.2.2.2.2), hj.1.1.setK HORD.out _, (KeepsOthers.setCell W' ⟨Kb, 0, none⟩ _).same D _ hj.1.2 rfl⟩
                    have e1 := hj.1.1.bk.cell
                    have e2 := hj.1.1.bk.frozen
                    have e3 := hj.2.1.cell
                    have e4 := hj.1.1.bv.cell
                    have e5 := hj.1.1.br.cell
                    have e6 := hj.1.1.br.frozen
                    clear hj
                    by_cases hk0 : k = 0
                    · subst hk0
                      gi_wp2
                      exact ⟨HFIN.out.1, HFIN.out.2.1, HFIN.out.2.2.1, HFIN.out.2.2.2⟩
                    · have hk0' : ¬ (k : Int) = 0 := by omega
                      have hk0'' : ((k : Int) == 0) = false := by simpa using hk0'
                      gi_wp2
                      exact ⟨HFIN.out.1, HFIN.out.2.1, HFIN.out.2.2.1, HFIN.out.2.2.2⟩
                  case stop3 =>
                    rintro c pre' W' hpre hx
                    rcases hx with ⟨_, hno⟩ | ⟨rfl, hk0, hj⟩
                    · exact absurd hpre hno
                    · clear hpre
                      have HFIN : Hid (KeepsFrom W7.heap.size W8 (W'.setCell ⟨Kb, 0, none⟩ (.int .i64 ((k : Int) + 1))) ∧ KpOf S W8 (W'.setCell ⟨Kb, 0, none⟩ (.int .i64 ((k : Int) + 1))) ∧ RI S w4 w (W'.setCell ⟨Kb, 0, none⟩ (.int .i64 ((k : Int) + 1))) B E V A Kb early vo rs vc (.func (.func gf) #[] lb) ((pre ++ [x]).length : Nat) ∧ (W'.setCell ⟨Kb, 0, none⟩ (.int .i64 ((k : Int) + 1))).heap[D]? = some (.deferred (some []))) := by
                        have e : (((pre ++ [x]).length : Nat) : Int) = (k : Int) + 1 := by rw [List.length_append, ← HKL.out]; simp
                        rw [e]
                        exact ⟨hj.2.2.2.trans ((KeepsOthers.setCell _ _ _).from _), kp_t hj.2.2.1 (kp_set W' ⟨Kb, 0, none⟩ _ HORD.out.2.2.2.2.2.2), hj.1.1.setK HORD.out _, (KeepsOthers.setCell W' ⟨Kb, 0, none⟩ _).same D _ hj.1.2 rfl⟩
                      have e1 := hj.1.1.bk.cell
                      have e2 := hj.1.1.bk.frozen
                      have e3 := hj.2.1.cell
                      have e4 := hj.1.1.bv.cell
                      have e5 := hj.1.1.br.cell
                      have e6 := hj.1.1.br.frozen
                      clear hj
                      have hk0' : ¬ (k : Int) = 0 := by omega
                      have hk0'' : ((k : Int) == 0) = false := by simpa using hk0'
                      gi_wp2
                      exact ⟨HFIN.out.1, HFIN.out.2.1, HFIN.out.2.2.1, HFIN.out.2.2.2⟩
                · subst h1
                  have h2' : ¬ (y : Int) = (v : Int) := by omega
                  have h2'' : ((y : Int) == (v : Int)) = false := by simpa using h2'
                  gi_wp2
                  exact ⟨(KeepsOthers.setCell _ _ _).from _, rfl, fun hp => by have := HXX.out hp; omega⟩
              · have h1' : ¬ (z : Int) = (u : Int) := by omega
                have h1'' : ((z : Int) == (u : Int)) = false := by simpa using h1'
                gi_wp2
                exact ⟨(KeepsOthers.setCell _ _ _).from _, rfl, fun hp => by have := HXX.out hp; omega⟩
            case done2 =>
              rintro D2 ys W9 hD2 hys ⟨hR, hDD⟩ hK2
              rw [hys] at hR
              have c1 := hR.bv.cell
              have c2 := hR.bk.cell
              have HR9 := hidM hR
              have HK2 := hidM hK2
              have HDD := hidM hDD
              have HD2 := hidM hD2
              clear hR hK2 hDD hD2 hys
              go_wp2_with fail
              go_at_call 10
              refine (fixed_any W9 (HT.out.kept (Keeps.below_none HR9.out.be_) id)).mono ?_
              rintro e w11 ⟨rfl, hk⟩
              have hb := box_keeps HR9.out.br hk id
              have b1 := hb.cell
              have b2 := hb.frozen
              have HK5 : Hid ((w11.setCell ⟨B + 1, 0, none⟩ (.bool true)).heap[D2]? = some (.deferred (some []))) := (KeepsOthers.setCell w11 ⟨B + 1, 0, none⟩ (.bool true)).same D2 _ ((hk.block D2 (Array.getElem?_eq_some_iff.1 HK2.out).1 id).trans HK2.out) rfl
              have HD5 : Hid ((w11.setCell ⟨B + 1, 0, none⟩ (.bool true)).heap[D]? = some (.deferred (some []))) := (KeepsOthers.setCell w11 ⟨B + 1, 0, none⟩ (.bool true)).same D _ ((hk.block D (Array.getElem?_eq_some_iff.1 HDD.out).1 id).trans HDD.out) rfl
              have HB5 : Hid (Boxed (w11.setCell ⟨B + 1, 0, none⟩ (.bool true)) (B + 1) 4 (.bool true)) := Boxed.set _ hb
              have HX5 : Hid (Keeps w (w11.setCell ⟨B + 1, 0, none⟩ (.bool true)) (fun _ => False)) := ((Keeps.below_none HR9.out.be_).trans hk fun _ _ h => h).setCell (p := ⟨B + 1, 0, none⟩) (fun h => by have := HN.out; simp at h; omega) _
              clear hb hk HR9 c1 c2
              go_wp2
              have hDD2 : D ≠ D2 := by have h1 := HD7.out; have h2 := HD2.out; omega
              have hK6 : ((w11.setCell ⟨B + 1, 0, none⟩ (.bool true)).putObj D2 (.deferred none)).heap[D]? = some (.deferred (some [])) := by
                have := (Keeps.ofGrown (grownBy_putObj' (w11.setCell ⟨B + 1, 0, none⟩ (.bool true)) D2 (.deferred none))).block D (Array.getElem?_eq_some_iff.1 HD5.out).1 (fun e => hDD2 (by cases e; rfl))
                exact this.trans HD5.out
              have hne2 : B + 1 ≠ D2 := by have h1 := HD7.out; have h2 := HD2.out; have h3 := HDK.out; have h4 := HN.out; omega
              have hne1 : B + 1 ≠ D := by have h3 := HDK.out; have h4 := HN.out; omega
              have hb6 := HB5.out.kept (grownBy_putObj' _ D2 (.deferred none)) (fun e => hne2 (by cases e; rfl))
              have hz6 := (hb6.kept (grownBy_putObj' _ D (.deferred none)) (fun e => hne1 (by cases e; rfl))).cell
              have hle2 : w.heap.size ≤ D2 := by have h1 := HD7.out; have h2 := HD2.out; have h3 := HDK.out; omega
              have hbl := ((HX5.out.below' (Nat.le_refl _)).trans (belowK_b (w := w) (Nat.le_refl _) _ D2 _ (.deferred none) hle2 HK5.out rfl rfl)).trans (belowK_b (w := w) (Nat.le_refl _) _ D _ (.deferred none) HDK.out.2 hK6 rfl rfl)
              refine ⟨by simp, .inl ⟨_, _, rfl, run_takeDeferred HK5.out, ?_⟩⟩
              refine ⟨by simp, .inl ⟨_, _, rfl, run_takeDeferred hK6, ?_⟩⟩
              refine ⟨.bool true, ?_, rfl, Keeps.below_none hbl⟩
              simp [results, Tryd.f5, go_sem, hz6]
            case stop2 =>
              rintro D2 c pre W9 hD2 hpre ⟨_, hno⟩ hK2
              exact absurd hpre hno
end Go.Proofs.YteppfammimbmcaaDoor.Kit
