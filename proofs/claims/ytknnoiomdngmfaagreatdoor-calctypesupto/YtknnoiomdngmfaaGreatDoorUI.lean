import Derived.Test.YtknnoiomdngmfaaGreatDoorWH
import Derived.Test.YtknnoiomdngmfaaGreatDoorLQ
import Derived.Test.YtknnoiomdngmfaaGreatDoorUR
set_option maxRecDepth 100000
set_option maxHeartbeats 4000000
namespace Go.Proofs.YtknnoiomdngmfaaGreatDoor.Kit
open Go.RowKit Go.Shelf Go.Deep
set_option linter.unusedVariables false
set_option linter.unusedSimpArgs false
attribute [local go_sem] run_store_func
abbrev fT (nm : ByteArray) (nb : Bool) (t : FT) : FT := ⟨nm, nb, t.kind, t.width, t.id, t.index, t.kids⟩
theorem at14_one {S : Nat → Prop} {d x z : Nat} {f : FT} {ao : Option Addr} {ca : Nat} {er tt : Int} {p : List Nat} {u : World} (hT : Tab u) (hr : RowAt S u d ao f.kids) (hle : f.kids.length ≤ ca) (hd : d + 1 ≤ big) (hS : ∀ b, S b → b < u.heap.size) (hF : FaultIs (0, 0) (nodes (d + 1) [f] [] false) er p tt)
    (hx : u.heap[x]? = some (.cells #[.string f.name, .bool f.nul, .int .i64 f.kind, .int .i64 f.width, .int .i64 f.id, .int .i64 f.index, .slice ao f.kids.length ca] 26)) (hz : u.heap[z]? = some (.cells #[.int .i64 0] 3)) :
    Calls Tryz.prog 14 #[.agg #[.slice (some ⟨x, 0, none⟩) 1 1, .slice none 0 0], .slice (some ⟨z, 0, none⟩) 1 1] u (AtQ u (d + 1) (if er = 0 then (0, f) else (5, zFT))) := by
  have hrow := row_alone hx hr hle
  have hs : Sch (fun c => S c ∨ c = x) u (d + 1) (some ⟨x, 0, none⟩) none 1 0 [f] [] := ⟨hrow, by simp, notes_none u⟩
  have hS' : ∀ c, (S c ∨ c = x) → c < u.heap.size := fun c h => h.elim (hS c) fun h => by rw [h]; exact lt_of_heap hx
  obtain ⟨er', p', tt', t⟩ := hs.tells hT hd hS'
  obtain ⟨rfl, rfl, rfl⟩ := hF.one t.is
  have hzs : ZsAt u (some ⟨z, 0, none⟩) [0] := fun _ => ⟨z, 0, rfl, fun j hj => by
    obtain rfl : j = 0 := by simpa using hj
    exact cell1 hz⟩
  have h := at_gen (fs := [f]) (path := [0]) (po := some ⟨z, 0, none⟩) (pc := 1) (maybe_gen t.t11) hrow (by simp) hS' hzs (by decide) u (Keeps.refl _ _)
  have e : atR er [f] [0] = if er = 0 then (0, f) else (5, zFT) := by
    unfold atR
    by_cases h0 : er = 0
    · subst h0; simp [atGo]
    simp [h0]
  rw [e] at h
  exact h
def ansR (ok : Bool) (er : Int) (F : FT) : Int × FT := if ok = true ∧ er = 0 then (0, F) else (5, zFT)
theorem tail_any {S : Nat → Prop} {W w : World} {d x0 y : Nat} {nm : ByteArray} {nb : Bool} {t : FT} {ao : Option Addr} {ca : Nat} {er tt : Int} {p : List Nat} (ok : Bool) (h : Tl5 S W d x0 y nm nb t ao ca w) (hS : ∀ b, S b → b < W.heap.size) (hF : FaultIs (0, 0) (nodes (d + 3) [(fT nm nb t)] [] false) er p tt) {a : Act} (ha : IsT x0 y ok a) : tail5.wp Tryz.prog (bodyPost Tryz.prog Tryz.f5 (AtQ W (d + 3) (ansR ok er (fT nm nb t)))) a w := by
  cases ha
  cases ok with
  | false => exact tail5_no h _ _ _ _ _ _ _ _ _ _ _ _ _ _ _ _ _ _ _ _ _ _ _ _ _ _ _ _ _ _ _ _ _ _ _ _ _ _ _ _ _ _ _ _ _ _ _ _ _ _ _ _ _ _ _ _ _ _ _ _ _ _ _ _ _ _ _ _ _ _ _ _ _ _ _ _ _ _ _ _ _ _ _ _ _ _ _ _ _ _ _ _ _ _ _ _ _ _ _ _ _ _ _ _ _ _ _ _ _ _ _ _ _ _ _ _ _ _ _ _ _ _ _ _ _ _ _ _ _ _ _ _ _ _ _ _ _ _ _ _ _ _ _ _ _ _ _ _ _ _ _ _ _ _ _ _ _ _ _ _ _ _ _ _ _ _ _ _ _ _ _ _ _ _ _ _ _ _ _ _ _ _ _ _ _ _ _ _ _ _ _ _ _ _ _ _ _ _ _ _ _ _ _ _ _ _ _ _ _ _ _ _ _ _ _ _ _ _ _ _ _ _ _ _ _ _ _ _ _ _ _ _ _ _ _ _ _ _ _ _ _ _ _ _ _ _ _ _ _ _ _ _ _ _ _ _ _ _ _ _
  | true => exact tail5_ok h hS hF (by unfold ansR; simp) _ _ _ _ _ _ _ _ _ _ _ _ _ _ _ _ _ _ _ _ _ _ _ _ _ _ _ _ _ _ _ _ _ _ _ _ _ _ _ _ _ _ _ _ _ _ _ _ _ _ _ _ _ _ _ _ _ _ _ _ _ _ _ _ _ _ _ _ _ _ _ _ _ _ _ _ _ _ _ _ _ _ _ _ _ _ _ _ _ _ _ _ _ _ _ _ _ _ _ _ _ _ _ _ _ _ _ _ _ _ _ _ _ _ _ _ _ _ _ _ _ _ _ _ _ _ _ _ _ _ _ _ _ _ _ _ _ _ _ _ _ _ _ _ _ _ _ _ _ _ _ _ _ _ _ _ _ _ _ _ _ _ _ _ _ _ _ _ _ _ _ _ _ _ _ _ _ _ _ _ _ _ _ _ _ _ _ _ _ _ _ _ _ _ _ _ _ _ _ _ _ _ _ _ _ _ _ _ _ _ _ _ _ _ _ _ _ _ _ _ _ _ _ _ _ _ _ _ _ _ _ _ _ _ _ _ _ _ _ _ _ _ _ _ _ _ _ _ _ _ _ _ _ _ _ _ _ _ _ _
theorem prog (n : Nat) (hn1 : 1 ≤ n) (S : Nat → Prop) (d b o lc : Nat) (op : Int) (nm : ByteArray) (nb ok : Bool) (t : FT) (P : Nat → World → Prop) (W : World) (er tt : Int) (p : List Nat) (hT : Tab W) (hS : ∀ b, S b → b < W.heap.size) (hd : d + 3 ≤ big) (hF : FaultIs (0, 0) (nodes (d + 3) [(fT nm nb t)] [] false) er p tt) (hN : argN op = (n : Int)) (hlc : n ≤ lc) (hnm : W.cell? ⟨b, o, none⟩ = some (.string nm))
    (h9 : ∀ u, Gr W u → Calls Tryz.prog 9 #[.slice (some ⟨b, o, none⟩) n lc, .func (.func 10) #[] #[]] u fun e w' => e = .returned (.bool false) ∧ Gr u w')
    (h12 : ∀ u, Gr W u → Calls Tryz.prog 12 #[.slice (some ⟨b, o, none⟩) n lc] u fun e w' => ∃ tb, e = .returned (.slice (some ⟨tb, 0, none⟩) n n) ∧ Gr u w' ∧ P tb w')
    (h11 : ∀ u tb, Gr W u → P tb u → Calls Tryz.prog 11 #[.int .i64 op, .slice (some ⟨tb, 0, none⟩) n n] u fun e w' => ∃ ao ca, e = .returned (.tuple #[.agg #[.int .i64 t.kind, .int .i64 t.width, .int .i64 t.id, .int .i64 t.index, .slice ao t.kids.length ca], .bool ok]) ∧ Gr u w' ∧ TyI S W d t ao ca)
    (h13 : ∀ u, Gr W u → Calls Tryz.prog 13 #[.int .i64 op, .slice (some ⟨b, o, none⟩) n lc] u fun e w' => e = .returned (.bool nb) ∧ Gr u w') :
    Calls Tryz.prog 4 #[.int .i64 op, .slice (some ⟨b, o, none⟩) n lc] W (AtQ W (d + 3) (ansR ok er (fT nm nb t))) := by
  cases ok with
  | false => exact type4_no n hn1 S d b o lc (d + 3) op nm nb t (0, zFT) P W hN hlc hnm h9 h12 h11
  | true =>
    refine type4_ok n hn1 S d b o lc (d + 3) op nm nb t _ P W hN hlc hnm h9 h12 h11 h13 (fun u x z ao ca g hty hx hz => ?_)
    obtain ⟨d', hd', hr⟩ := hty.row
    have h := at14_one (S := S) (d := d + 2) (f := (fT nm nb t)) (ao := ao) (ca := ca) (hT.gr g) ((hr.le (by omega)).kept fun b hb => g.block b (hS b hb) id) hty.le hd (fun b hb => Nat.lt_of_lt_of_le (hS b hb) g.size) hF hx hz
    have e : ansR true er (fT nm nb t) = if er = 0 then (0, (fT nm nb t)) else (5, zFT) := by unfold ansR; simp
    rw [e]
    exact h
structure Cx (S : Nat → Prop) (w : World) (d b o lc n : Nat) (f g : Nat → FT) (ao : Nat → Option Addr) (ca : Nat → Nat) : Prop where
  hT : Tab w
  hS : ∀ b, S b → b < w.heap.size
  hb : b < w.heap.size
  hd : d + 3 ≤ big
  hlc : n ≤ lc
  hF : ∀ i, i < n → FlI S w d b (o + i * 7) (f i) (ao i) (ca i)
  hA : ∀ i, i < n → AllR (nodes (d + 1) [f i] [] false)
  hV : ∀ i, i < n → PlV d (f i) (g i)
  hG : ∀ i, i < n → tableB (g i) = true ∧ (g i).kind ≠ 19 ∧ (g i).kind ≠ 20
theorem Cx.gr {S : Nat → Prop} {w W : World} {d b o lc n : Nat} {f g : Nat → FT} {ao : Nat → Option Addr} {ca : Nat → Nat} (h : Cx S w d b o lc n f g ao ca) (k : Gr w W) : Cx S W d b o lc n f g ao ca :=
  ⟨h.hT.gr k, fun b hb => Nat.lt_of_lt_of_le (h.hS b hb) k.size, Nat.lt_of_lt_of_le h.hb k.size, h.hd, h.hlc, fun i hi => (h.hF i hi).gr k h.hb h.hS, h.hA, h.hV, h.hG⟩
theorem TyI.back {S : Nat → Prop} {w W : World} {d : Nat} {g : FT} {bo : Option Addr} {cb : Nat} (h : TyI S W d g bo cb) (k : Gr w W) (hS : ∀ b, S b → b < w.heap.size) : TyI S w d g bo cb := by
  obtain ⟨d', hd, hr⟩ := h.row
  exact ⟨h.le, d', hd, hr.kept fun b hb => (k.block b (hS b hb) id).symm⟩
theorem TyI.fld {S : Nat → Prop} {W : World} {d : Nat} {g : FT} {bo : Option Addr} {cb : Nat} (h : TyI S W d g bo cb) : Fld S W d g bo cb := by
  obtain ⟨d', hd, hr⟩ := h.row
  exact ⟨hr.le hd, h.le⟩
theorem Cx.alike {S : Nat → Prop} {w : World} {d b o lc n : Nat} {f g : Nat → FT} {ao : Nat → Option Addr} {ca : Nat → Nat} (h : Cx S w d b o lc n f g ao ca) {i j : Nat} (hi : i < n) (hj : j < n) {bi bj : Option Addr} {ci cj : Nat} (ti : TyI S w d (g i) bi ci) (tj : TyI S w d (g j) bj cj) :
    Ans 48 #[.agg #[.int .i64 (g i).kind, .int .i64 (g i).width, .int .i64 (g i).id, .int .i64 (g i).index, .slice bi (g i).kids.length ci], .agg #[.int .i64 (g j).kind, .int .i64 (g j).width, .int .i64 (g j).id, .int .i64 (g j).index, .slice bj (g j).kids.length cj]] (alkB d (g i) (g j)) w ∧ Ans 19 #[.agg #[.int .i64 (g i).kind, .int .i64 (g i).width, .int .i64 (g i).id, .int .i64 (g i).index, .slice bi (g i).kids.length ci], .agg #[.int .i64 (g j).kind, .int .i64 (g j).width, .int .i64 (g j).id, .int .i64 (g j).index, .slice bj (g j).kids.length cj]] (alkB d (g i) (g j)) w :=
  both_alikeP h.hT ti.fld tj.fld (by have := h.hd; omega) h.hS (h.hG i hi).2.2 (h.hG j hj).2.2
theorem Cx.may {S : Nat → Prop} {w : World} {d b o lc n : Nat} {f g : Nat → FT} {ao : Nat → Option Addr} {ca : Nat → Nat} (h : Cx S w d b o lc n f g ao ca) {i : Nat} (hi : i < n) :
    (∀ u, Gr w u → Calls Tryz.prog 10 #[.agg #[.string (f i).name, .bool (f i).nul, .int .i64 (f i).kind, .int .i64 (f i).width, .int .i64 (f i).id, .int .i64 (f i).index, .slice (ao i) (f i).kids.length (ca i)]] u fun e w' => e = .returned (.bool false) ∧ Gr u w') ∧ Ans 16 #[.agg #[.string (f i).name, .bool (f i).nul, .int .i64 (f i).kind, .int .i64 (f i).width, .int .i64 (f i).id, .int .i64 (f i).index, .slice (ao i) (f i).kids.length (ca i)]] true w := by
  have hz : FaultIs (0, 0) (nodes (d + 1) [f i] [] false) 0 [] 0 := .inr (.inl ⟨rfl, h.hA i hi, rfl, rfl, rfl⟩)
  have hd := h.hd
  exact ⟨mayNot10 S d (f i) (ao i) (ca i) 0 0 [] w h.hT (h.hF i hi).row (h.hF i hi).le (by omega) h.hS hz, mayBeR_gen ⟨(h.hF i hi).row, (h.hF i hi).le⟩ h.hS hz⟩
def Pl1 (S : Nat → Prop) (w : World) (d : Nat) (g : Nat → FT) (tb : Nat) (u : World) : Prop := ∃ bo0 cb0, TyAt u tb 0 (g 0) bo0 cb0 ∧ TyI S w d (g 0) bo0 cb0
variable {S : Nat → Prop} {w : World} {d b o lc : Nat} {f g : Nat → FT} {ao : Nat → Option Addr} {ca : Nat → Nat}
theorem Cx.types1 (h : Cx S w d b o lc 1 f g ao ca) (u : World) (k : Gr w u) : Calls Tryz.prog 12 #[.slice (some ⟨b, o, none⟩) 1 lc] u fun e w' => ∃ tb, e = .returned (.slice (some ⟨tb, 0, none⟩) 1 1) ∧ Gr u w' ∧ Pl1 S w d g tb w' := by
  have hu := h.gr k
  have l0 : FlI S u d b o (f 0) (ao 0) (ca 0) := by have := hu.hF 0 (by decide); simpa using this
  refine (plainTypes12_1 S d b o lc d (f 0) (g 0) (ao 0) (ca 0) u hu.hS hu.hb hu.hlc l0 (PlV.r _ _ _ (h.hV 0 (by decide)))).mono ?_
  rintro e w' ⟨tb, bo0, cb0, rfl, gw, -, hc, t0⟩
  refine ⟨tb, rfl, gw, bo0, cb0, ?_, t0.back k h.hS⟩
  all_goals (refine ⟨?_, ?_, ?_, ?_, ?_⟩ <;> simp [World.cell?, hc])
theorem Cx.none1 (h : Cx S w d b o lc 1 f g ao ca) (u : World) (k : Gr w u) : Calls Tryz.prog 9 #[.slice (some ⟨b, o, none⟩) 1 lc, .func (.func 10) #[] #[]] u fun e w' => e = .returned (.bool false) ∧ Gr u w' := by
  have hu := h.gr k
  have l0 : FlI S u d b o (f 0) (ao 0) (ca 0) := by have := hu.hF 0 (by decide); simpa using this
  exact has9_10_1 S d b o lc (f 0) (ao 0) (ca 0) false u hu.hS hu.hb hu.hlc l0 (hu.may (i := 0) (by decide)).1
theorem Cx.nulls1 (h : Cx S w d b o lc 1 f g ao ca) (u : World) (k : Gr w u) : Calls Tryz.prog 9 #[.slice (some ⟨b, o, none⟩) 1 lc, .func (.func 31) #[] #[]] u fun e w' => e = .returned (.bool (anyN f 1)) ∧ Gr u w' := by
  have hu := h.gr k
  have l0 : FlI S u d b o (f 0) (ao 0) (ca 0) := by have := hu.hF 0 (by decide); simpa using this
  have h9 := has9_31_1 S d b o lc (f 0) (ao 0) (ca 0) (f 0).nul u hu.hS hu.hb hu.hlc l0 (fun u _ => null31 (f 0) (ao 0) (ca 0) u)
  have e : anyN f 1 = ((f 0).nul) := by simp [anyN]
  rw [e]
  exact h9
def Pl2 (S : Nat → Prop) (w : World) (d : Nat) (g : Nat → FT) (tb : Nat) (u : World) : Prop := ∃ bo0 cb0 bo1 cb1, TyAt u tb 0 (g 0) bo0 cb0 ∧ TyAt u tb 5 (g 1) bo1 cb1 ∧ TyI S w d (g 0) bo0 cb0 ∧ TyI S w d (g 1) bo1 cb1
theorem Cx.types2 (h : Cx S w d b o lc 2 f g ao ca) (u : World) (k : Gr w u) : Calls Tryz.prog 12 #[.slice (some ⟨b, o, none⟩) 2 lc] u fun e w' => ∃ tb, e = .returned (.slice (some ⟨tb, 0, none⟩) 2 2) ∧ Gr u w' ∧ Pl2 S w d g tb w' := by
  have hu := h.gr k
  have l0 : FlI S u d b o (f 0) (ao 0) (ca 0) := by have := hu.hF 0 (by decide); simpa using this
  have l1 : FlI S u d b (o + 7) (f 1) (ao 1) (ca 1) := by have := hu.hF 1 (by decide); simpa using this
  refine (plainTypes12_2 S d b o lc d d (f 0) (g 0) (f 1) (g 1) (ao 0) (ao 1) (ca 0) (ca 1) u hu.hS hu.hb hu.hlc l0 (PlV.r _ _ _ (h.hV 0 (by decide))) l1 (PlV.r _ _ _ (h.hV 1 (by decide)))).mono ?_
  rintro e w' ⟨tb, bo0, cb0, bo1, cb1, rfl, gw, -, hc, t0, t1⟩
  refine ⟨tb, rfl, gw, bo0, cb0, bo1, cb1, ?_, ?_, t0.back k h.hS, t1.back k h.hS⟩
  all_goals (refine ⟨?_, ?_, ?_, ?_, ?_⟩ <;> simp [World.cell?, hc])
theorem Cx.none2 (h : Cx S w d b o lc 2 f g ao ca) (u : World) (k : Gr w u) : Calls Tryz.prog 9 #[.slice (some ⟨b, o, none⟩) 2 lc, .func (.func 10) #[] #[]] u fun e w' => e = .returned (.bool false) ∧ Gr u w' := by
  have hu := h.gr k
  have l0 : FlI S u d b o (f 0) (ao 0) (ca 0) := by have := hu.hF 0 (by decide); simpa using this
  have l1 : FlI S u d b (o + 7) (f 1) (ao 1) (ca 1) := by have := hu.hF 1 (by decide); simpa using this
  exact has9_10_2 S d b o lc (f 0) (f 1) (ao 0) (ao 1) (ca 0) (ca 1) false false u hu.hS hu.hb hu.hlc l0 (hu.may (i := 0) (by decide)).1 l1 (hu.may (i := 1) (by decide)).1
theorem Cx.nulls2 (h : Cx S w d b o lc 2 f g ao ca) (u : World) (k : Gr w u) : Calls Tryz.prog 9 #[.slice (some ⟨b, o, none⟩) 2 lc, .func (.func 31) #[] #[]] u fun e w' => e = .returned (.bool (anyN f 2)) ∧ Gr u w' := by
  have hu := h.gr k
  have l0 : FlI S u d b o (f 0) (ao 0) (ca 0) := by have := hu.hF 0 (by decide); simpa using this
  have l1 : FlI S u d b (o + 7) (f 1) (ao 1) (ca 1) := by have := hu.hF 1 (by decide); simpa using this
  have h9 := has9_31_2 S d b o lc (f 0) (f 1) (ao 0) (ao 1) (ca 0) (ca 1) (f 0).nul (f 1).nul u hu.hS hu.hb hu.hlc l0 (fun u _ => null31 (f 0) (ao 0) (ca 0) u) l1 (fun u _ => null31 (f 1) (ao 1) (ca 1) u)
  have e : anyN f 2 = ((f 0).nul || (f 1).nul) := by simp [anyN]
  rw [e]
  exact h9
def Pl3 (S : Nat → Prop) (w : World) (d : Nat) (g : Nat → FT) (tb : Nat) (u : World) : Prop := ∃ bo0 cb0 bo1 cb1 bo2 cb2, TyAt u tb 0 (g 0) bo0 cb0 ∧ TyAt u tb 5 (g 1) bo1 cb1 ∧ TyAt u tb 10 (g 2) bo2 cb2 ∧ TyI S w d (g 0) bo0 cb0 ∧ TyI S w d (g 1) bo1 cb1 ∧ TyI S w d (g 2) bo2 cb2
theorem Cx.types3 (h : Cx S w d b o lc 3 f g ao ca) (u : World) (k : Gr w u) : Calls Tryz.prog 12 #[.slice (some ⟨b, o, none⟩) 3 lc] u fun e w' => ∃ tb, e = .returned (.slice (some ⟨tb, 0, none⟩) 3 3) ∧ Gr u w' ∧ Pl3 S w d g tb w' := by
  have hu := h.gr k
  have l0 : FlI S u d b o (f 0) (ao 0) (ca 0) := by have := hu.hF 0 (by decide); simpa using this
  have l1 : FlI S u d b (o + 7) (f 1) (ao 1) (ca 1) := by have := hu.hF 1 (by decide); simpa using this
  have l2 : FlI S u d b (o + 14) (f 2) (ao 2) (ca 2) := by have := hu.hF 2 (by decide); simpa using this
  refine (plainTypes12_3 S d b o lc d d d (f 0) (g 0) (f 1) (g 1) (f 2) (g 2) (ao 0) (ao 1) (ao 2) (ca 0) (ca 1) (ca 2) u hu.hS hu.hb hu.hlc l0 (PlV.r _ _ _ (h.hV 0 (by decide))) l1 (PlV.r _ _ _ (h.hV 1 (by decide))) l2 (PlV.r _ _ _ (h.hV 2 (by decide)))).mono ?_
  rintro e w' ⟨tb, bo0, cb0, bo1, cb1, bo2, cb2, rfl, gw, -, hc, t0, t1, t2⟩
  refine ⟨tb, rfl, gw, bo0, cb0, bo1, cb1, bo2, cb2, ?_, ?_, ?_, t0.back k h.hS, t1.back k h.hS, t2.back k h.hS⟩
  all_goals (refine ⟨?_, ?_, ?_, ?_, ?_⟩ <;> simp [World.cell?, hc])
theorem Cx.none3 (h : Cx S w d b o lc 3 f g ao ca) (u : World) (k : Gr w u) : Calls Tryz.prog 9 #[.slice (some ⟨b, o, none⟩) 3 lc, .func (.func 10) #[] #[]] u fun e w' => e = .returned (.bool false) ∧ Gr u w' := by
  have hu := h.gr k
  have l0 : FlI S u d b o (f 0) (ao 0) (ca 0) := by have := hu.hF 0 (by decide); simpa using this
  have l1 : FlI S u d b (o + 7) (f 1) (ao 1) (ca 1) := by have := hu.hF 1 (by decide); simpa using this
  have l2 : FlI S u d b (o + 14) (f 2) (ao 2) (ca 2) := by have := hu.hF 2 (by decide); simpa using this
  exact has9_10_3 S d b o lc (f 0) (f 1) (f 2) (ao 0) (ao 1) (ao 2) (ca 0) (ca 1) (ca 2) false false false u hu.hS hu.hb hu.hlc l0 (hu.may (i := 0) (by decide)).1 l1 (hu.may (i := 1) (by decide)).1 l2 (hu.may (i := 2) (by decide)).1
theorem outA_f (op : Int) (hop : op = 1 ∨ op = 2 ∨ op = 3 ∨ op = 4) (a : FT) (ao : Option Addr) (ca tb : Nat) (W : World) (ht : TyAt W tb 0 a ao ca) (hC : ∀ u, Gr W u → Calls Tryz.prog 27 #[.slice (some ⟨tb, 0, none⟩) 2 2] u fun e w' => e = .returned (.bool false) ∧ Gr u w') :
    Calls Tryz.prog 11 #[.int .i64 op, .slice (some ⟨tb, 0, none⟩) 2 2] W fun e w' => e = .returned (.tuple #[.agg #[.int .i64 a.kind, .int .i64 a.width, .int .i64 a.id, .int .i64 a.index, .slice ao a.kids.length ca], .bool (false)]) ∧ Gr W w' := by
  obtain ⟨A0, hA0⟩ := ex (W.alloc (.cells #[.int .i64 0, .int .i64 0, .int .i64 0, .int .i64 0, .slice none 0 0] 24))
  obtain ⟨A1, hA1⟩ := ex (A0.alloc (.cells #[.int .i64 0, .int .i64 0, .int .i64 0, .int .i64 0, .slice none 0 0] 24))
  obtain ⟨V, hV⟩ := ex (stA A1 A0.heap.size b5)
  obtain ⟨HO, g1, g0, b1, z0⟩ := outW_new W A0 A1 V hA0 hA1 hV
  obtain ⟨y0, y1, y2, y3, y4⟩ := cell5p b1
  obtain ⟨x0, x1, x2, x3, x4⟩ := frz5 b1
  have a0 : A1.cell? ⟨tb, 0, none⟩ = some (.int .i64 a.kind) := g1.cell' ht.1 id
  have d0 : A0.cell? ⟨tb, 0, none⟩ = some (.int .i64 a.kind) := g0.cell' ht.1 id
  have HT := hidM (outT HO (fun u => u.cell? ⟨tb, 0, none⟩ = some (.int .i64 a.kind) ∧ u.cell? ⟨tb, 1, none⟩ = some (.int .i64 a.width) ∧ u.cell? ⟨tb, 2, none⟩ = some (.int .i64 a.id) ∧ u.cell? ⟨tb, 3, none⟩ = some (.int .i64 a.index) ∧ u.cell? ⟨tb, 4, none⟩ = some (.slice ao a.kids.length ca)) (fun u g h => ht.gr g) (.int .i64 a.kind) (.int .i64 a.width) (.int .i64 a.id) (.int .i64 a.index) (.slice ao a.kids.length ca))
  have HC := hidM (hC V.drew HO.gr.drew)
  have HS0 := hidM (HT.out V.drew (Keeps.refl _ _)).1
  clear hC HO g1 g0 b1 z0 ht
  simp only [b5, stA] at hV
  rcases hop with rfl | rfl | rfl | rfl
  all_goals
    (go_enter Tryz.func11, Tryz.ntmps11
     go_wp2_with fail
     clear y0 y1 y2 y3 y4 x0 x1 x2 x3 x4 a0 d0 hA0 hA1 hV
     refine wp_region_held_drew (S := fun w' => w'.cell? ⟨tb, 0, none⟩ = some (.int .i64 a.kind) ∧ w'.cell? ⟨tb, 1, none⟩ = some (.int .i64 a.width) ∧ w'.cell? ⟨tb, 2, none⟩ = some (.int .i64 a.id) ∧ w'.cell? ⟨tb, 3, none⟩ = some (.int .i64 a.index) ∧ w'.cell? ⟨tb, 4, none⟩ = some (.slice ao a.kids.length ca)) (by kernel_rfl) (HS0.out) (fun hHeld => ?_)
     refine tk 0 ?_
     refine tk 1 ?_
     refine tk 2 ?_
     refine tk 3 ?_
     refine rd1 4 fun Kc hK => ?_
     go_simp
     go_at_call 27
     refine Calls.mono (HC.out) ?_
     rintro e' w2 ⟨rfl, g2⟩; obtain ⟨hs2, hz2, hu2, hg2, hsU⟩ := HT.out w2 g2; have HS2 := hidM hs2; have HSU := hidM hsU; have HU2 := hidM hu2; have HG2 := hidM hg2; have HZ2 := hidM hz2; clear g2 hs2 hsU hu2 hg2 hz2
     go_wp2_with fail
     refine hK.out _ _ (HS2.out) (fun hHeld => ?_)
     clear hK Kc
     try simp only [Act.put, lA, lB, lC]
     refine tk 5 ?_
     refine sk 6 ?_
     refine sk 7 ?_
     refine sk 8 ?_
     refine sk 9 ?_
     refine sk 10 ?_
     refine sk 11 ?_
     refine tk 12 ?_
     refine rd1 13 fun Kc hK => ?_
     obtain ⟨c0, c1, c2, c3, c4⟩ := cell5p HZ2.out
     obtain ⟨x0, x1, x2, x3, x4⟩ := frz5 HZ2.out
     obtain ⟨U, hU⟩ := ex (stA w2 W.heap.size [(0, .int .i64 a.kind), (1, .int .i64 a.width), (2, .int .i64 a.id), (3, .int .i64 a.index), (4, .slice ao a.kids.length ca)])
     rw [hU] at HU2 HG2 HSU
     simp only [stA] at hU
     go_simp
     refine hK.out _ _ (HSU.out) (fun hHeld => ?_)
     clear hK Kc
     try simp only [Act.put, lA, lB, lC]
     refine tk 14 ?_
     refine wpAnyH_done (by kernel_rfl) ?_ _
     go_wp2_with fail
     (try simp only [Exit.inBlock, Exit.then])
     refine bodyPost_ret (results_c24t rfl rfl (by with_reducible exact HU2.out) (by kernel_rfl)) rfl ?_
     exact ⟨rfl, HG2.out⟩)
theorem outA_tt (op : Int) (hop : op = 1 ∨ op = 2 ∨ op = 3 ∨ op = 4) (a : FT) (ao : Option Addr) (ca tb : Nat) (W : World) (ht : TyAt W tb 0 a ao ca) (hv : (decide (3 ≤ a.kind) && decide (a.kind ≤ 10)) = true) (hC : ∀ u, Gr W u → Calls Tryz.prog 27 #[.slice (some ⟨tb, 0, none⟩) 2 2] u fun e w' => e = .returned (.bool true) ∧ Gr u w') :
    Calls Tryz.prog 11 #[.int .i64 op, .slice (some ⟨tb, 0, none⟩) 2 2] W fun e w' => e = .returned (.tuple #[.agg #[.int .i64 a.kind, .int .i64 a.width, .int .i64 a.id, .int .i64 a.index, .slice ao a.kids.length ca], .bool (true)]) ∧ Gr W w' := by
  obtain ⟨A0, hA0⟩ := ex (W.alloc (.cells #[.int .i64 0, .int .i64 0, .int .i64 0, .int .i64 0, .slice none 0 0] 24))
  obtain ⟨A1, hA1⟩ := ex (A0.alloc (.cells #[.int .i64 0, .int .i64 0, .int .i64 0, .int .i64 0, .slice none 0 0] 24))
  obtain ⟨V, hV⟩ := ex (stA A1 A0.heap.size b5)
  obtain ⟨HO, g1, g0, b1, z0⟩ := outW_new W A0 A1 V hA0 hA1 hV
  obtain ⟨y0, y1, y2, y3, y4⟩ := cell5p b1
  obtain ⟨x0, x1, x2, x3, x4⟩ := frz5 b1
  have a0 : A1.cell? ⟨tb, 0, none⟩ = some (.int .i64 a.kind) := g1.cell' ht.1 id
  have d0 : A0.cell? ⟨tb, 0, none⟩ = some (.int .i64 a.kind) := g0.cell' ht.1 id
  have HT := hidM (outT HO (fun u => u.cell? ⟨tb, 0, none⟩ = some (.int .i64 a.kind) ∧ u.cell? ⟨tb, 1, none⟩ = some (.int .i64 a.width) ∧ u.cell? ⟨tb, 2, none⟩ = some (.int .i64 a.id) ∧ u.cell? ⟨tb, 3, none⟩ = some (.int .i64 a.index) ∧ u.cell? ⟨tb, 4, none⟩ = some (.slice ao a.kids.length ca)) (fun u g h => ht.gr g) (.int .i64 a.kind) (.int .i64 a.width) (.int .i64 a.id) (.int .i64 a.index) (.slice ao a.kids.length ca))
  have HC := hidM (hC V.drew HO.gr.drew)
  have HV : Hid (∀ u, Calls Tryz.prog 28 #[.int .i64 a.kind] u fun e w' => e = .returned (.bool true) ∧ u = w') := fun u => by have h := whole28 a.kind u; rwa [hv] at h
  have HS0 := hidM (HT.out V.drew (Keeps.refl _ _)).1
  clear hC HO g1 g0 b1 z0 ht
  simp only [b5, stA] at hV
  rcases hop with rfl | rfl | rfl | rfl
  all_goals
    (go_enter Tryz.func11, Tryz.ntmps11
     go_wp2_with fail
     clear y0 y1 y2 y3 y4 x0 x1 x2 x3 x4 a0 d0 hA0 hA1 hV
     refine wp_region_held_drew (S := fun w' => w'.cell? ⟨tb, 0, none⟩ = some (.int .i64 a.kind) ∧ w'.cell? ⟨tb, 1, none⟩ = some (.int .i64 a.width) ∧ w'.cell? ⟨tb, 2, none⟩ = some (.int .i64 a.id) ∧ w'.cell? ⟨tb, 3, none⟩ = some (.int .i64 a.index) ∧ w'.cell? ⟨tb, 4, none⟩ = some (.slice ao a.kids.length ca)) (by kernel_rfl) (HS0.out) (fun hHeld => ?_)
     refine tk 0 ?_
     refine tk 1 ?_
     refine tk 2 ?_
     refine tk 3 ?_
     refine rd1 4 fun Kc hK => ?_
     go_simp
     go_at_call 27
     refine Calls.mono (HC.out) ?_
     rintro e' w2 ⟨rfl, g2⟩; obtain ⟨hs2, hz2, hu2, hg2, hsU⟩ := HT.out w2 g2; have HS2 := hidM hs2; have HSU := hidM hsU; have HU2 := hidM hu2; have HG2 := hidM hg2; have HZ2 := hidM hz2; clear g2 hs2 hsU hu2 hg2 hz2
     go_wp2_with fail
     refine hK.out _ _ (HS2.out) (fun hHeld => ?_)
     clear hK Kc
     try simp only [Act.put, lA, lB, lC]
     refine tk 5 ?_
     refine tk 6 ?_
     refine rd1 7 fun Kc hK => ?_
     go_simp
     go_at_call 28
     refine Calls.mono (HV.out _) ?_
     rintro e' w3 ⟨rfl, hw⟩; subst hw
     go_wp2_with fail
     refine hK.out _ _ (HS2.out) (fun hHeld => ?_)
     clear hK Kc
     try simp only [Act.put, lA, lB, lC]
     refine tk 8 ?_
     refine sk 9 ?_
     refine sk 10 ?_
     refine tk 11 ?_
     refine tk 12 ?_
     refine rd1 13 fun Kc hK => ?_
     obtain ⟨c0, c1, c2, c3, c4⟩ := cell5p HZ2.out
     obtain ⟨x0, x1, x2, x3, x4⟩ := frz5 HZ2.out
     obtain ⟨U, hU⟩ := ex (stA w2 W.heap.size [(0, .int .i64 a.kind), (1, .int .i64 a.width), (2, .int .i64 a.id), (3, .int .i64 a.index), (4, .slice ao a.kids.length ca)])
     rw [hU] at HU2 HG2 HSU
     simp only [stA] at hU
     go_simp
     refine hK.out _ _ (HSU.out) (fun hHeld => ?_)
     clear hK Kc
     try simp only [Act.put, lA, lB, lC]
     refine tk 14 ?_
     refine wpAnyH_done (by kernel_rfl) ?_ _
     go_wp2_with fail
     (try simp only [Exit.inBlock, Exit.then])
     refine bodyPost_ret (results_c24t rfl rfl (by with_reducible exact HU2.out) (by kernel_rfl)) rfl ?_
     exact ⟨rfl, HG2.out⟩)
theorem outA_tf (op : Int) (hop : op = 1 ∨ op = 2 ∨ op = 3 ∨ op = 4) (a : FT) (ao : Option Addr) (ca tb : Nat) (W : World) (ht : TyAt W tb 0 a ao ca) (hv : (decide (3 ≤ a.kind) && decide (a.kind ≤ 10)) = false) (hC : ∀ u, Gr W u → Calls Tryz.prog 27 #[.slice (some ⟨tb, 0, none⟩) 2 2] u fun e w' => e = .returned (.bool true) ∧ Gr u w') :
    Calls Tryz.prog 11 #[.int .i64 op, .slice (some ⟨tb, 0, none⟩) 2 2] W fun e w' => e = .returned (.tuple #[.agg #[.int .i64 a.kind, .int .i64 a.width, .int .i64 a.id, .int .i64 a.index, .slice ao a.kids.length ca], .bool (a.kind == 11)]) ∧ Gr W w' := by
  obtain ⟨A0, hA0⟩ := ex (W.alloc (.cells #[.int .i64 0, .int .i64 0, .int .i64 0, .int .i64 0, .slice none 0 0] 24))
  obtain ⟨A1, hA1⟩ := ex (A0.alloc (.cells #[.int .i64 0, .int .i64 0, .int .i64 0, .int .i64 0, .slice none 0 0] 24))
  obtain ⟨V, hV⟩ := ex (stA A1 A0.heap.size b5)
  obtain ⟨HO, g1, g0, b1, z0⟩ := outW_new W A0 A1 V hA0 hA1 hV
  obtain ⟨y0, y1, y2, y3, y4⟩ := cell5p b1
  obtain ⟨x0, x1, x2, x3, x4⟩ := frz5 b1
  have a0 : A1.cell? ⟨tb, 0, none⟩ = some (.int .i64 a.kind) := g1.cell' ht.1 id
  have d0 : A0.cell? ⟨tb, 0, none⟩ = some (.int .i64 a.kind) := g0.cell' ht.1 id
  have HT := hidM (outT HO (fun u => u.cell? ⟨tb, 0, none⟩ = some (.int .i64 a.kind) ∧ u.cell? ⟨tb, 1, none⟩ = some (.int .i64 a.width) ∧ u.cell? ⟨tb, 2, none⟩ = some (.int .i64 a.id) ∧ u.cell? ⟨tb, 3, none⟩ = some (.int .i64 a.index) ∧ u.cell? ⟨tb, 4, none⟩ = some (.slice ao a.kids.length ca)) (fun u g h => ht.gr g) (.int .i64 a.kind) (.int .i64 a.width) (.int .i64 a.id) (.int .i64 a.index) (.slice ao a.kids.length ca))
  have HC := hidM (hC V.drew HO.gr.drew)
  have HV : Hid (∀ u, Calls Tryz.prog 28 #[.int .i64 a.kind] u fun e w' => e = .returned (.bool false) ∧ u = w') := fun u => by have h := whole28 a.kind u; rwa [hv] at h
  have HS0 := hidM (HT.out V.drew (Keeps.refl _ _)).1
  clear hC HO g1 g0 b1 z0 ht
  simp only [b5, stA] at hV
  rcases hop with rfl | rfl | rfl | rfl
  all_goals
    (go_enter Tryz.func11, Tryz.ntmps11
     go_wp2_with fail
     clear y0 y1 y2 y3 y4 x0 x1 x2 x3 x4 a0 d0 hA0 hA1 hV
     refine wp_region_held_drew (S := fun w' => w'.cell? ⟨tb, 0, none⟩ = some (.int .i64 a.kind) ∧ w'.cell? ⟨tb, 1, none⟩ = some (.int .i64 a.width) ∧ w'.cell? ⟨tb, 2, none⟩ = some (.int .i64 a.id) ∧ w'.cell? ⟨tb, 3, none⟩ = some (.int .i64 a.index) ∧ w'.cell? ⟨tb, 4, none⟩ = some (.slice ao a.kids.length ca)) (by kernel_rfl) (HS0.out) (fun hHeld => ?_)
     refine tk 0 ?_
     refine tk 1 ?_
     refine tk 2 ?_
     refine tk 3 ?_
     refine rd1 4 fun Kc hK => ?_
     go_simp
     go_at_call 27
     refine Calls.mono (HC.out) ?_
     rintro e' w2 ⟨rfl, g2⟩; obtain ⟨hs2, hz2, hu2, hg2, hsU⟩ := HT.out w2 g2; have HS2 := hidM hs2; have HSU := hidM hsU; have HU2 := hidM hu2; have HG2 := hidM hg2; have HZ2 := hidM hz2; clear g2 hs2 hsU hu2 hg2 hz2
     go_wp2_with fail
     refine hK.out _ _ (HS2.out) (fun hHeld => ?_)
     clear hK Kc
     try simp only [Act.put, lA, lB, lC]
     refine tk 5 ?_
     refine tk 6 ?_
     refine rd1 7 fun Kc hK => ?_
     go_simp
     go_at_call 28
     refine Calls.mono (HV.out _) ?_
     rintro e' w3 ⟨rfl, hw⟩; subst hw
     go_wp2_with fail
     refine hK.out _ _ (HS2.out) (fun hHeld => ?_)
     clear hK Kc
     try simp only [Act.put, lA, lB, lC]
     refine tk 8 ?_
     refine tk 9 ?_
     refine tk 10 ?_
     refine tk 11 ?_
     refine tk 12 ?_
     refine rd1 13 fun Kc hK => ?_
     obtain ⟨c0, c1, c2, c3, c4⟩ := cell5p HZ2.out
     obtain ⟨x0, x1, x2, x3, x4⟩ := frz5 HZ2.out
     obtain ⟨U, hU⟩ := ex (stA w2 W.heap.size [(0, .int .i64 a.kind), (1, .int .i64 a.width), (2, .int .i64 a.id), (3, .int .i64 a.index), (4, .slice ao a.kids.length ca)])
     rw [hU] at HU2 HG2 HSU
     simp only [stA] at hU
     go_simp
     refine hK.out _ _ (HSU.out) (fun hHeld => ?_)
     clear hK Kc
     try simp only [Act.put, lA, lB, lC]
     refine tk 14 ?_
     refine wpAnyH_done (by kernel_rfl) ?_ _
     go_wp2_with fail
     (try simp only [Exit.inBlock, Exit.then])
     refine bodyPost_ret (results_c24t rfl rfl (by with_reducible exact HU2.out) (by kernel_rfl)) rfl ?_
     exact ⟨rfl, HG2.out⟩)
end Go.Proofs.YtknnoiomdngmfaaGreatDoor.Kit
