import Derived.Test.YtfepbpibhcfjdaaDoorMF
import Derived.Test.YtfepbpibhcfjdaaDoorLO
import Derived.Test.YtfepbpibhcfjdaaDoorND
import Derived.Deep.RegionHeld3
namespace Go.Proofs.YtfepbpibhcfjdaaDoor.Kit
open Go.RowKit Go.Shelf Go.Deep
set_option linter.unusedVariables false
attribute [local go_sem] run_store_func

/-! ### which fields and types may be: the program's and the document's -/
/-- a field in memory -/
structure Fld (S : Nat → Prop) (w : World) (d : Nat) (f : FT) (ao : Option Addr) (ca : Nat) : Prop where
  row : RowAt S w d ao f.kids
  le : f.kids.length ≤ ca
theorem Fld.gr {S : Nat → Prop} {w W : World} {d : Nat} {f : FT} {ao : Option Addr} {ca : Nat} (h : Fld S w d f ao ca) (hS : ∀ b, S b → b < w.heap.size) (g : Gr w W) : Fld S W d f ao ca := ⟨h.row.kept fun b hb => g.block b (hS b hb) id, h.le⟩
set_option maxRecDepth 100000 in
set_option maxHeartbeats 2000000 in
theorem fieldMayBe_gen {S : Nat → Prop} {d : Nat} {f : FT} {ao : Option Addr} {ca : Nat} {w : World} {er tt : Int} {p : List Nat} (hT : Tab w) (h : Fld S w d f ao ca) (hd : d + 1 ≤ big) (hS : ∀ b, S b → b < w.heap.size) (hF : FaultIs (0, 0) (nodes (d + 1) [f] [] false) er p tt) :
    Ans 28 #[.agg #[.string f.name, .bool f.nul, .int .i64 f.kind, .int .i64 f.width, .int .i64 f.id, .int .i64 f.index, .slice ao f.kids.length ca]] (er == 0) w := by
  intro W g
  have HM : Hid (∀ (W1 : World) (b : Nat), Gr W W1 → W.heap.size ≤ b → W1.heap[b]? = some (.cells #[.string f.name, .bool f.nul, .int .i64 f.kind, .int .i64 f.width, .int .i64 f.id, .int .i64 f.index, .slice ao f.kids.length ca] 35) → Calls Tryd.prog 21 #[.agg #[.slice (some ⟨b, 0, none⟩) 1 1, .slice none 0 0]] W1 fun e w' => e = .returned (.bool (er == 0)) ∧ Gr W1 w') := by
    intro W1 b g1 hb hx
    have g' : Gr w W1 := g.trans g1 (fun _ _ h => h)
    have hrow := row_alone hx (h.row.kept fun b h => g'.block b (hS b h) id) h.le
    have hs : Sch (fun c => S c ∨ c = b) W1 (d + 1) (some ⟨b, 0, none⟩) none 1 0 [f] [] := ⟨hrow, by simp, notes_none W1⟩
    obtain ⟨er', p', tt', t⟩ := hs.tells (hT.gr g') hd (fun c h => h.elim (fun h => Nat.lt_of_lt_of_le (hS c h) g'.size) fun h => by rw [h]; exact lt_of_heap hx)
    obtain ⟨rfl, rfl, rfl⟩ := hF.one t.is
    exact maybe_gen t.t11 W1 (Keeps.refl _ _)
  have hal := alone_any f.name f.nul f.kind f.width f.id f.index ao f.kids.length ca (W.alloc (.cells #[.string f.name, .bool f.nul, .int .i64 f.kind, .int .i64 f.width, .int .i64 f.id, .int .i64 f.index, .slice ao f.kids.length ca] 35))
  have HA := hidM hal
  clear hal h g hF
  generalize f.name = f0 at *
  generalize f.nul = f1 at *
  generalize f.kind = f2 at *
  generalize f.width = f3 at *
  generalize f.id = f4 at *
  generalize f.index = f5 at *
  generalize f.kids.length = f6 at *
  go_enter Tryd.func28, Tryd.ntmps28
  go_wp2_with (go_at_call 49; refine Hid.out ?_)
  unfold Hid
  refine Calls.mono HA.out ?_
  rintro e W1 ⟨b, rfl, hg1, hb, hx⟩
  have HC := hidM (HM.out W1 b ((gr_alloc W _).trans hg1 (fun _ _ h => h)) (by simp at hb; omega) hx)
  have HG := hidM ((gr_alloc W _).trans hg1 (fun _ _ h => h))
  clear hg1 hb hx HM HA
  go_wp2_with (go_at_call 21; refine Hid.out ?_)
  unfold Hid
  refine Calls.mono HC.out ?_
  rintro e W2 ⟨rfl, hg2⟩
  have HE := hidM (HG.out.trans hg2 (fun _ _ h => h))
  clear hg2
  go_wp2_with fail
  go_ret
  exact ⟨rfl, HE.out⟩
set_option maxRecDepth 100000 in
set_option maxHeartbeats 2000000 in
theorem mayBeR_gen {S : Nat → Prop} {d : Nat} {f : FT} {ao : Option Addr} {ca : Nat} {w : World} {er tt : Int} {p : List Nat} (h : Fld S w d f ao ca) (hS : ∀ b, S b → b < w.heap.size) (hF : FaultIs (0, 0) (nodes (d + 1) [f] [] false) er p tt) :
    Ans 30 #[.agg #[.string f.name, .bool f.nul, .int .i64 f.kind, .int .i64 f.width, .int .i64 f.id, .int .i64 f.index, .slice ao f.kids.length ca]] (er == 0) w := by
  intro W g
  have HC : Hid (∀ W1, Gr W W1 → Calls Tryd.prog 51 #[.agg #[.string f.name, .bool f.nul, .int .i64 f.kind, .int .i64 f.width, .int .i64 f.id, .int .i64 f.index, .slice ao f.kids.length ca]] W1 fun e w' => ∃ vo vn vc, e = .returned (.agg #[.int .i64 er, .slice vo vn vc, .int .i64 tt]) ∧ Gr W1 w') := fun W1 g1 => by
    have g' : Gr w W1 := g.trans g1 (fun _ _ h => h)
    refine Calls.mono (checkFieldR_any S d f ao ca W1 (h.row.kept fun b hb => g'.block b (hS b hb) id) h.le (fun b hb => by have := hS b hb; have := g'.size; omega)) ?_
    rintro e w' ⟨er', p', vo, vc, tt', rfl, hg, h1, h2⟩
    obtain ⟨rfl, rfl, rfl⟩ := hF.cut.one h1
    exact ⟨vo, _, vc, rfl, hg⟩
  clear h g hF
  have hfl : ∀ vo vn vc w, (Instr.field 41 (.agg #[.int .i64 er, .slice vo vn vc, .int .i64 tt]) 0).run Tryd.prog w = .ok (.int .i64 er) w := fun vo vn vc w => by kernel_rfl
  generalize f.name = f0 at *
  generalize f.nul = f1 at *
  generalize f.kind = f2 at *
  generalize f.width = f3 at *
  generalize f.id = f4 at *
  generalize f.index = f5 at *
  generalize f.kids.length = f6 at *
  go_enter Tryd.func30, Tryd.ntmps30
  go_wp2_with (go_at_call 51; refine Hid.out ?_)
  unfold Hid
  refine Calls.mono (HC.out _ (gr_alloc W _)) ?_
  rintro e W1 ⟨vo, vn, vc, rfl, hg1⟩
  have HE := hidM ((gr_alloc W _).trans hg1 (fun _ _ h => h))
  clear hg1
  go_wp2_with fail
  go_ret
  exact ⟨rfl, HE.out⟩

/-- Nullable, as the program asks of a type -/
def nulA (f : FT) : Bool := if f.kind = 20 ∧ f.kids ≠ [] then kid0 f else decide (f.kind = 1)
/-- and the document -/
def nulR (f : FT) : Bool := decide (f.kind = 1) || (decide (f.kind = 20) && decide (f.kids.length = 1) && kid0 f)
def holdA (f : FT) : FT := ⟨⟨#[97]⟩, nulA f, f.kind, f.width, f.id, f.index, f.kids⟩
def holdR (f : FT) : FT := ⟨⟨#[97]⟩, nulR f, f.kind, f.width, f.id, f.index, f.kids⟩
theorem kid0_cell {S : Nat → Prop} {W : World} {D : Nat} {fo : Option Addr} {f : FT} (h : RowAt S W D fo f.kids) (hne : f.kids ≠ []) : ∃ b o, fo = some ⟨b, o, none⟩ ∧ W.cell? ⟨b, o + 1, none⟩ = some (.bool (kid0 f)) := kids_cell h hne
set_option maxRecDepth 100000 in
set_option maxHeartbeats 2000000 in
theorem asField_any (S : Nat → Prop) (d : Nat) (f : FT) (ao : Option Addr) (ca : Nat) (w : World) (h : Fld S w d f ao ca) (hS : ∀ b, S b → b < w.heap.size) :
    Calls Tryd.prog 58 #[.agg #[.int .i64 f.kind, .int .i64 f.width, .int .i64 f.id, .int .i64 f.index, .slice ao f.kids.length ca]] w fun e w' => e = .returned (.agg #[.string ⟨#[97]⟩, .bool (nulA f), .int .i64 f.kind, .int .i64 f.width, .int .i64 f.id, .int .i64 f.index, .slice ao f.kids.length ca]) ∧ Gr w w' := by
  have hl : f.kids.length ≤ 1000000000000 := h.row.len
  have hle := h.le
  have HK : Hid (f.kids ≠ [] → ∃ b o, ao = some ⟨b, o, none⟩ ∧ w.cell? ⟨b, o + 1, none⟩ = some (.bool (kid0 f))) := fun hne => kid0_cell h.row hne
  obtain ⟨z, hz⟩ : ∃ z, z = nulA f := ⟨_, rfl⟩
  rw [← hz]
  unfold nulA at hz
  obtain ⟨n, hn⟩ : ∃ n, n = f.kids.length := ⟨_, rfl⟩
  rw [← hn] at hl hle ⊢
  have hne : f.kids ≠ [] ↔ 0 < n := by rw [hn]; exact List.length_pos_iff.symm
  have HZ := hidM hz
  have HNE := hidM hne
  clear h hz hn hne
  generalize f.kind = k at *
  generalize f.width = wd at *
  generalize f.id = i at *
  generalize f.index = x at *
  have fin : ∀ (w3 : World), w3 = ((((((((w.alloc (.cells #[.int .i64 k, .int .i64 wd, .int .i64 i, .int .i64 x, .slice ao n ca] 33)).alloc (.cells #[.string ⟨#[97]⟩, .bool z, .int .i64 k, .int .i64 wd, .int .i64 i, .int .i64 x, .slice ao n ca] 35))))))) ) → Gr w w3 := fun w3 e => by rw [e]; exact (gr_alloc w _).alloc _
  have HFin := hidM fin
  clear fin
  have hb2 : ∀ (c : Array Value), ((w.alloc (.cells #[.int .i64 k, .int .i64 wd, .int .i64 i, .int .i64 x, .slice ao n ca] 33)).alloc (.cells c 35)).heap[w.heap.size + 1]? = some (.cells c 35) := fun c => by
    have := World.alloc_heap_new (w.alloc (.cells #[.int .i64 k, .int .i64 wd, .int .i64 i, .int .i64 x, .slice ao n ca] 33)) (.cells c 35)
    rw [World.size_alloc] at this
    exact this
  have HB := hidM hb2
  clear hb2
  by_cases h20 : k = 20
  · subst h20
    by_cases hn0 : 0 < n
    · obtain ⟨b, o, rfl, hc⟩ := HK.out (HNE.out.2 hn0)
      have hzz : z = kid0 f := by rw [HZ.out, if_pos ⟨rfl, HNE.out.2 hn0⟩]
      rw [← hzz] at hc
      have hc' := fun (o1 : Obj) => (gr_alloc w o1).cell' hc id
      have hc2 := fun (o1 o2 : Obj) => ((gr_alloc w o1).alloc o2).cell' hc id
      have hnI : (0 : Int) < (n : Int) := by omega
      clear hc hzz
      go_enter Tryd.func58, Tryd.ntmps58
      go_wp2
      obtain ⟨v0, v1, v2, v3, v4, v5, v6⟩ := cell7 (HB.out #[.string ⟨#[97]⟩, .bool z, .int .i64 20, .int .i64 wd, .int .i64 i, .int .i64 x, .slice (some ⟨b, o, none⟩) n ca])
      simp only [Nat.zero_add] at v1 v2 v3 v4 v5 v6
      refine bodyPost_ret (v := .agg #[.string ⟨#[97]⟩, .bool z, .int .i64 20, .int .i64 wd, .int .i64 i, .int .i64 x, .slice (some ⟨b, o, none⟩) n ca]) ?_ rfl ⟨rfl, HFin.out _ rfl⟩
      simp [results, Tryd.f58, go_sem, v0, v1, v2, v3, v4, v5, v6]
    · have hzz : z = false := by rw [HZ.out, if_neg (fun h => hn0 (HNE.out.1 h.2))]; rfl
      subst hzz
      have hn00 : n = 0 := by omega
      subst hn00
      go_enter Tryd.func58, Tryd.ntmps58
      go_wp2
      obtain ⟨v0, v1, v2, v3, v4, v5, v6⟩ := cell7 (HB.out #[.string ⟨#[97]⟩, .bool false, .int .i64 20, .int .i64 wd, .int .i64 i, .int .i64 x, .slice ao 0 ca])
      simp only [Nat.zero_add] at v1 v2 v3 v4 v5 v6
      refine bodyPost_ret (v := .agg #[.string ⟨#[97]⟩, .bool false, .int .i64 20, .int .i64 wd, .int .i64 i, .int .i64 x, .slice ao 0 ca]) ?_ rfl ⟨rfl, HFin.out _ rfl⟩
      simp [results, Tryd.f58, go_sem, v0, v1, v2, v3, v4, v5, v6]
  · have hzz : z = (k == 1) := by
      rw [HZ.out, if_neg (fun h => h20 h.1)]
      by_cases h1 : k = 1 <;> simp [h1]
    have h20b := beqZ h20
    have HZZ := hidM hzz.symm
    clear hzz
    go_enter Tryd.func58, Tryd.ntmps58
    go_wp2
    rw [HZZ.out]
    obtain ⟨v0, v1, v2, v3, v4, v5, v6⟩ := cell7 (HB.out #[.string ⟨#[97]⟩, .bool z, .int .i64 k, .int .i64 wd, .int .i64 i, .int .i64 x, .slice ao n ca])
    simp only [Nat.zero_add] at v1 v2 v3 v4 v5 v6
    refine bodyPost_ret (v := .agg #[.string ⟨#[97]⟩, .bool z, .int .i64 k, .int .i64 wd, .int .i64 i, .int .i64 x, .slice ao n ca]) ?_ rfl ⟨rfl, HFin.out _ rfl⟩
    simp [results, Tryd.f58, go_sem, v0, v1, v2, v3, v4, v5, v6]
end Go.Proofs.YtfepbpibhcfjdaaDoor.Kit
namespace Go.Proofs.YtfepbpibhcfjdaaDoor.Kit
open Go.RowKit Go.Shelf Go.Deep
set_option linter.unusedVariables false
attribute [local go_sem] run_store_func

end Go.Proofs.YtfepbpibhcfjdaaDoor.Kit
namespace Go.Proofs.YtfepbpibhcfjdaaDoor.Kit
open Go.RowKit Go.Shelf Go.Deep
set_option linter.unusedVariables false
attribute [local go_sem] run_store_func

set_option maxRecDepth 100000 in
set_option maxHeartbeats 2000000 in
theorem type53_walk {S : Nat → Prop} {d : Nat} {f : FT} {ao : Option Addr} {ca : Nat} {w : World} {z : Bool} (h : Fld S w d f ao ca) (hS : ∀ b, S b → b < w.heap.size) (hm : Ans 28 #[.agg #[.string ⟨#[97]⟩, .bool (nulA f), .int .i64 f.kind, .int .i64 f.width, .int .i64 f.id, .int .i64 f.index, .slice ao f.kids.length ca]] z w) :
    Ans 40 #[.agg #[.int .i64 f.kind, .int .i64 f.width, .int .i64 f.id, .int .i64 f.index, .slice ao f.kids.length ca]] z w := by
  intro W g
  have HC : Hid (∀ W1, Gr W W1 → Calls Tryd.prog 58 #[.agg #[.int .i64 f.kind, .int .i64 f.width, .int .i64 f.id, .int .i64 f.index, .slice ao f.kids.length ca]] W1 fun e w' => e = .returned (.agg #[.string ⟨#[97]⟩, .bool (nulA f), .int .i64 f.kind, .int .i64 f.width, .int .i64 f.id, .int .i64 f.index, .slice ao f.kids.length ca]) ∧ Gr W1 w') := fun W1 g1 => by
    have g' : Gr w W1 := g.trans g1 (fun _ _ h => h)
    exact asField_any S d f ao ca W1 (h.gr hS g') (fun b hb => by have := hS b hb; have := g'.size; omega)
  have HM := hidM (hm.gr g)
  unfold Ans at HM
  clear h g hm
  generalize nulA f = f1 at *
  generalize f.kind = f2 at *
  generalize f.width = f3 at *
  generalize f.id = f4 at *
  generalize f.index = f5 at *
  generalize f.kids.length = f6 at *
  go_enter Tryd.func40, Tryd.ntmps40
  go_wp2_with (go_at_call 58; refine Hid.out ?_)
  unfold Hid
  refine Calls.mono (HC.out _ (gr_alloc W _)) ?_
  rintro e W1 ⟨rfl, hg1⟩
  have HG := hidM ((gr_alloc W _).trans hg1 (fun _ _ h => h))
  clear hg1
  go_wp2_with (go_at_call 28; refine Hid.out ?_)
  unfold Hid
  refine Calls.mono (HM.out _ HG.out) ?_
  rintro e W2 ⟨rfl, hg2⟩
  have HE := hidM (HG.out.trans hg2 (fun _ _ h => h))
  clear hg2
  go_wp2_with fail
  go_ret
  exact ⟨rfl, HE.out⟩
theorem nul_eq {f : FT} (h : f.kind = 20 → f.kids.length ≤ 1) : nulA f = nulR f := by
  unfold nulA nulR
  by_cases h20 : f.kind = 20
  · have := h h20
    cases hk : f.kids with
    | nil => simp [h20]
    | cons a t =>
      rw [hk] at this
      have ht : t = [] := by simpa using this
      subst ht
      simp [h20]
  · simp [h20]
theorem nodes_cons (d : Nat) (g : FT) : nodes (d + 1) [g] [] false = ⟨[g], [0], false⟩ :: nodes d g.kids [0] (decide (g.kind = 19)) := by
  simp [nodes]
/-- the first field alone is right by the table -/
theorem AllR.table {d : Nat} {g : FT} (h : AllR (nodes (d + 1) [g] [] false)) : tableB g = true := by
  have h0 := h 0 (by rw [nodes_cons]; simp)
  have hx : (nodes (d + 1) [g] [] false)[0]'(by rw [nodes_cons]; simp) = ⟨[g], [0], false⟩ := by simp [nodes_cons]
  rw [hx] at h0
  have hf : LS.fld ⟨[g], [0], false⟩ = g := by simp [LS.fld, LS.idx]
  unfold wrongE at h0
  have := wr_tab h0
  rwa [hf] at this
theorem runs_one {g : FT} (h : tableB g = true) (hk : g.kind = 20) : g.kids.length ≤ 1 := by
  simp [tableB, hk, mostK, leastK] at h
  omega
/-- both say the same of a field -/
theorem both_field {S : Nat → Prop} {d : Nat} {f : FT} {ao : Option Addr} {ca : Nat} {w : World} (hT : Tab w) (h : Fld S w d f ao ca) (hd : d + 1 ≤ big) (hS : ∀ b, S b → b < w.heap.size) :
    ∃ z : Bool, Ans 28 #[.agg #[.string f.name, .bool f.nul, .int .i64 f.kind, .int .i64 f.width, .int .i64 f.id, .int .i64 f.index, .slice ao f.kids.length ca]] z w ∧ Ans 30 #[.agg #[.string f.name, .bool f.nul, .int .i64 f.kind, .int .i64 f.width, .int .i64 f.id, .int .i64 f.index, .slice ao f.kids.length ca]] z w ∧ (z = true → AllR (nodes (d + 1) [f] [] false)) := by
  obtain ⟨er, p, tt, hA⟩ := fault_is (0, 0) (nodes (d + 1) [f] [] false)
  refine ⟨_, fieldMayBe_gen hT h hd hS hA, mayBeR_gen h hS hA, fun hz => ?_⟩
  have h0 : er = 0 := by simpa using hz
  subst h0
  exact hA.zero.2

/-! ### alike: of two lone fields -/
theorem sameAll_congr {α : Type} {p q : α → α → Bool} : ∀ {a b : List α}, (∀ x ∈ a, ∀ y ∈ b, p x y = q x y) → sameAll p a b = sameAll q a b
  | [], [], _ => rfl
  | [], _ :: _, _ => rfl
  | _ :: _, [], _ => rfl
  | x :: a, y :: b, h => by
    rw [sameAll, sameAll, h x (by simp) y (by simp), sameAll_congr fun x hx y hy => h x (by simp [hx]) y (by simp [hy])]
theorem alikeB_false {d : Nat} {a b : FT} (ha : deep d a.kids) (hb : deep d b.kids) : alikeB false 1 1 (nodes (d + 1) [a] [] false) (nodes (d + 1) [b] [] false) = ((a.nul == b.nul) && (tyEq a b && sameLs d a.kids b.kids)) := by
  have hfa : ∀ g : FT, LS.fld ⟨[g], [0], false⟩ = g := fun g => by simp [LS.fld, LS.idx]
  have e1 : ndEq false ⟨[a], [0], false⟩ ⟨[b], [0], false⟩ = nodeEq a b := by simp [ndEq, hfa]
  have e2 : sameAll (ndEq false) (nodes d a.kids [0] (decide (a.kind = 19))) (nodes d b.kids [0] (decide (b.kind = 19))) = sameAll nmEq (pre d a.kids) (pre d b.kids) := by
    rw [← nodes_pre d a.kids [0] (decide (a.kind = 19)), ← nodes_pre d b.kids [0] (decide (b.kind = 19)), sameAll_map]
    refine sameAll_congr fun x hx y _ => ?_
    have := nodes_path d _ _ _ x hx
    simp at this
    simp [ndEq, nmEq, this]
  unfold alikeB
  rw [nodes_cons, nodes_cons, sameAll, e1, e2]
  by_cases hl : a.kids.length = b.kids.length
  · have := pre_same d a.kids b.kids [] [] ha hb hl
    simp only [List.append_nil] at this
    rw [this]
    simp [nodeEq, hl, sameAll, Bool.and_assoc]
  · have h2 : sameLs d a.kids b.kids = false := by
      cases d with
      | zero => rw [sameLs]; exact sameAll_len hl
      | succ d => rw [sameLs_succ]; exact sameAll_len hl
    simp [nodeEq, hl, h2]
end Go.Proofs.YtfepbpibhcfjdaaDoor.Kit
namespace Go.Proofs.YtfepbpibhcfjdaaDoor.Kit
open Go.RowKit Go.Shelf Go.Deep
set_option linter.unusedVariables false
attribute [local go_sem] run_store_func

/-- two boxes, one behind the other -/
structure B2t (w W : World) (X : Nat) (c d : Array Value) (t : Nat) : Prop where
  g : Gr w W
  b0 : W.heap[X]? = some (.cells c t)
  b1 : W.heap[X + 1]? = some (.cells d t)
theorem B2t.gr {w W W' : World} {X t : Nat} {c d : Array Value} (h : B2t w W X c d t) (k : Gr W W') : B2t w W' X c d t := ⟨h.g.trans k (fun _ _ h => h), (k.block _ (lt_of_heap h.b0) id).trans h.b0, (k.block _ (lt_of_heap h.b1) id).trans h.b1⟩
theorem b2t_new (W : World) (c d : Array Value) (t : Nat) : B2t W ((W.alloc (.cells c t)).alloc (.cells d t)) W.heap.size c d t := by
  refine ⟨(gr_alloc W _).alloc _, (Below.heap_alloc _ _ _ (by simp)).trans (World.alloc_heap_new W _), ?_⟩
  have := World.alloc_heap_new (W.alloc (.cells c t)) (.cells d t)
  rw [World.size_alloc] at this
  exact this
set_option maxRecDepth 100000 in
set_option maxHeartbeats 4000000 in
theorem alikeFields_gen (s1 s2 : ByteArray) (n1 n2 : Bool) (k1 d1 i1 x1 k2 d2 i2 x2 : Int) (ao bo : Option Addr) (na ca nb cb : Nat) (x y r : Bool) (w : World) (ha : Ans 28 #[.agg #[.string s1, .bool n1, .int .i64 k1, .int .i64 d1, .int .i64 i1, .int .i64 x1, .slice ao na ca]] x w) (hb : Ans 28 #[.agg #[.string s2, .bool n2, .int .i64 k2, .int .i64 d2, .int .i64 i2, .int .i64 x2, .slice bo nb cb]] y w) (hc : Ans 42 #[.agg #[.int .i64 k1, .int .i64 d1, .int .i64 i1, .int .i64 x1, .slice ao na ca], .agg #[.int .i64 k2, .int .i64 d2, .int .i64 i2, .int .i64 x2, .slice bo nb cb]] r w) :
    Ans 20 #[.agg #[.string s1, .bool n1, .int .i64 k1, .int .i64 d1, .int .i64 i1, .int .i64 x1, .slice ao na ca], .agg #[.string s2, .bool n2, .int .i64 k2, .int .i64 d2, .int .i64 i2, .int .i64 x2, .slice bo nb cb]] (x && y && (n1 == n2) && r) w := by
  intro W g
  have HA := hidM (ha.gr g)
  have HB := hidM (hb.gr g)
  have HC := hidM (hc.gr g)
  clear ha hb hc g
  unfold Ans at HA HB HC
  obtain ⟨W0, hW0⟩ : ∃ W0, (W.alloc (.cells #[.string s1, .bool n1, .int .i64 k1, .int .i64 d1, .int .i64 i1, .int .i64 x1, .slice ao na ca] 35)).alloc (.cells #[.string s2, .bool n2, .int .i64 k2, .int .i64 d2, .int .i64 i2, .int .i64 x2, .slice bo nb cb] 35) = W0 := ⟨_, rfl⟩
  have HX : Hid (B2t W W0 W.heap.size #[.string s1, .bool n1, .int .i64 k1, .int .i64 d1, .int .i64 i1, .int .i64 x1, .slice ao na ca] #[.string s2, .bool n2, .int .i64 k2, .int .i64 d2, .int .i64 i2, .int .i64 x2, .slice bo nb cb] 35) := by rw [← hW0]; exact b2t_new W _ _ _
  obtain ⟨p0, p1, p2, p3, p4, p5, p6⟩ := cell7 HX.out.b0; simp only [Nat.zero_add] at p1 p2 p3 p4 p5 p6
  obtain ⟨q0, q1, q2, q3, q4, q5, q6⟩ := cell7 HX.out.b1; simp only [Nat.zero_add] at q1 q2 q3 q4 q5 q6
  go_enter Tryd.func20, Tryd.ntmps20
  go_wp2_with (go_at_call 28; refine Hid.out ?_)
  unfold Hid
  try rw [hW0]
  refine Calls.mono (HA.out _ HX.out.g) ?_
  rintro e W1 ⟨rfl, hg1⟩
  clear p0 p1 p2 p3 p4 p5 p6 q0 q1 q2 q3 q4 q5 q6 hW0
  replace HX := hidM (HX.out.gr hg1)
  clear hg1 HA
  cases x with
  | false =>
    go_wp2_with fail
    go_ret
    exact ⟨by simp, HX.out.g⟩
  | true =>
    obtain ⟨q0, q1, q2, q3, q4, q5, q6⟩ := cell7 HX.out.b1; simp only [Nat.zero_add] at q1 q2 q3 q4 q5 q6
    go_wp2_with (go_at_call 28; refine Hid.out ?_)
    unfold Hid
    refine Calls.mono (HB.out _ HX.out.g) ?_
    rintro e W2 ⟨rfl, hg1⟩
    clear q0 q1 q2 q3 q4 q5 q6
    replace HX := hidM (HX.out.gr hg1)
    clear hg1 HB
    cases y with
    | false =>
      go_wp2_with fail
      go_ret
      exact ⟨by simp, HX.out.g⟩
    | true =>
      obtain ⟨p0, p1, p2, p3, p4, p5, p6⟩ := cell7 HX.out.b0; simp only [Nat.zero_add] at p1 p2 p3 p4 p5 p6
      obtain ⟨q0, q1, q2, q3, q4, q5, q6⟩ := cell7 HX.out.b1; simp only [Nat.zero_add] at q1 q2 q3 q4 q5 q6
      by_cases hn : n1 = n2
      · subst hn
        go_wp2_with (go_at_call 42; refine Hid.out ?_)
        unfold Hid
        refine Calls.mono (HC.out _ HX.out.g) ?_
        rintro e W3 ⟨rfl, hg1⟩
        have HE := hidM (HX.out.g.trans hg1 (fun _ _ h => h))
        clear p0 p1 p2 p3 p4 p5 p6 q0 q1 q2 q3 q4 q5 q6 hg1 HX
        go_wp2_with fail
        go_ret
        exact ⟨by simp, HE.out⟩
      · have hnb : (n1 == n2) = false := by simp [hn]
        go_wp2
        go_ret
        exact ⟨by simp [hnb], HX.out.g⟩
end Go.Proofs.YtfepbpibhcfjdaaDoor.Kit
namespace Go.Proofs.YtfepbpibhcfjdaaDoor.Kit
open Go.RowKit Go.Shelf Go.Deep
set_option linter.unusedVariables false
attribute [local go_sem] run_store_func

theorem t10 {W V : World} {X : Nat} {k1 d1 i1 x1 k2 d2 i2 x2 : Int} {ao bo : Option Addr} {na ca nb cb : Nat} (h : B2t W V X #[.int .i64 k1, .int .i64 d1, .int .i64 i1, .int .i64 x1, .slice ao na ca] #[.int .i64 k2, .int .i64 d2, .int .i64 i2, .int .i64 x2, .slice bo nb cb] 33) : Hid (B2t W V X #[.int .i64 k1, .int .i64 d1, .int .i64 i1, .int .i64 x1, .slice ao na ca] #[.int .i64 k2, .int .i64 d2, .int .i64 i2, .int .i64 x2, .slice bo nb cb] 33) ∧ V.cell? ⟨X, 0, none⟩ = some (.int .i64 k1) ∧ V.cell? ⟨X, 1, none⟩ = some (.int .i64 d1) ∧ V.cell? ⟨X, 2, none⟩ = some (.int .i64 i1) ∧ V.cell? ⟨X, 3, none⟩ = some (.int .i64 x1) ∧ V.cell? ⟨X, 4, none⟩ = some (.slice ao na ca) ∧ V.cell? ⟨X + 1, 0, none⟩ = some (.int .i64 k2) ∧ V.cell? ⟨X + 1, 1, none⟩ = some (.int .i64 d2) ∧ V.cell? ⟨X + 1, 2, none⟩ = some (.int .i64 i2) ∧ V.cell? ⟨X + 1, 3, none⟩ = some (.int .i64 x2) ∧ V.cell? ⟨X + 1, 4, none⟩ = some (.slice bo nb cb) := by
  obtain ⟨a0, a1, a2, a3, a4⟩ := cell5 h.b0
  obtain ⟨b0, b1, b2, b3, b4⟩ := cell5 h.b1
  exact ⟨h, a0, a1, a2, a3, a4, b0, b1, b2, b3, b4⟩
theorem t10_kept {W V : World} {X : Nat} {k1 d1 i1 x1 k2 d2 i2 x2 : Int} {ao bo : Option Addr} {na ca nb cb : Nat} {V' : World} (h : Hid (B2t W V X #[.int .i64 k1, .int .i64 d1, .int .i64 i1, .int .i64 x1, .slice ao na ca] #[.int .i64 k2, .int .i64 d2, .int .i64 i2, .int .i64 x2, .slice bo nb cb] 33) ∧ V.cell? ⟨X, 0, none⟩ = some (.int .i64 k1) ∧ V.cell? ⟨X, 1, none⟩ = some (.int .i64 d1) ∧ V.cell? ⟨X, 2, none⟩ = some (.int .i64 i1) ∧ V.cell? ⟨X, 3, none⟩ = some (.int .i64 x1) ∧ V.cell? ⟨X, 4, none⟩ = some (.slice ao na ca) ∧ V.cell? ⟨X + 1, 0, none⟩ = some (.int .i64 k2) ∧ V.cell? ⟨X + 1, 1, none⟩ = some (.int .i64 d2) ∧ V.cell? ⟨X + 1, 2, none⟩ = some (.int .i64 i2) ∧ V.cell? ⟨X + 1, 3, none⟩ = some (.int .i64 x2) ∧ V.cell? ⟨X + 1, 4, none⟩ = some (.slice bo nb cb)) (k : Hid (Gr V V')) : Hid (B2t W V' X #[.int .i64 k1, .int .i64 d1, .int .i64 i1, .int .i64 x1, .slice ao na ca] #[.int .i64 k2, .int .i64 d2, .int .i64 i2, .int .i64 x2, .slice bo nb cb] 33) ∧ V'.cell? ⟨X, 0, none⟩ = some (.int .i64 k1) ∧ V'.cell? ⟨X, 1, none⟩ = some (.int .i64 d1) ∧ V'.cell? ⟨X, 2, none⟩ = some (.int .i64 i1) ∧ V'.cell? ⟨X, 3, none⟩ = some (.int .i64 x1) ∧ V'.cell? ⟨X, 4, none⟩ = some (.slice ao na ca) ∧ V'.cell? ⟨X + 1, 0, none⟩ = some (.int .i64 k2) ∧ V'.cell? ⟨X + 1, 1, none⟩ = some (.int .i64 d2) ∧ V'.cell? ⟨X + 1, 2, none⟩ = some (.int .i64 i2) ∧ V'.cell? ⟨X + 1, 3, none⟩ = some (.int .i64 x2) ∧ V'.cell? ⟨X + 1, 4, none⟩ = some (.slice bo nb cb) := t10 (h.1.out.gr k.out)
theorem t10_g {W V : World} {X : Nat} {k1 d1 i1 x1 k2 d2 i2 x2 : Int} {ao bo : Option Addr} {na ca nb cb : Nat} (h : Hid (B2t W V X #[.int .i64 k1, .int .i64 d1, .int .i64 i1, .int .i64 x1, .slice ao na ca] #[.int .i64 k2, .int .i64 d2, .int .i64 i2, .int .i64 x2, .slice bo nb cb] 33) ∧ V.cell? ⟨X, 0, none⟩ = some (.int .i64 k1) ∧ V.cell? ⟨X, 1, none⟩ = some (.int .i64 d1) ∧ V.cell? ⟨X, 2, none⟩ = some (.int .i64 i1) ∧ V.cell? ⟨X, 3, none⟩ = some (.int .i64 x1) ∧ V.cell? ⟨X, 4, none⟩ = some (.slice ao na ca) ∧ V.cell? ⟨X + 1, 0, none⟩ = some (.int .i64 k2) ∧ V.cell? ⟨X + 1, 1, none⟩ = some (.int .i64 d2) ∧ V.cell? ⟨X + 1, 2, none⟩ = some (.int .i64 i2) ∧ V.cell? ⟨X + 1, 3, none⟩ = some (.int .i64 x2) ∧ V.cell? ⟨X + 1, 4, none⟩ = some (.slice bo nb cb)) : Gr W V := h.1.out.g

end Go.Proofs.YtfepbpibhcfjdaaDoor.Kit
namespace Go.Proofs.YtfepbpibhcfjdaaDoor.Kit
open Go.RowKit Go.Shelf Go.Deep
set_option linter.unusedVariables false
attribute [local go_sem] run_store_func

/-! ### widths and shapes -/
/-- how many bytes -/
def widthV (k ix : Nat) (d : Int) : Int := if k = 19 then bytesK ix else if k = 14 then d else bytesK k
/-- buffers, children, dictionaries -/
def shapeV (k n : Nat) : Value := if k = 19 then .tuple #[.int .i64 (bufsK 19), .int .i64 0, .int .i64 1] else if k = 20 then .tuple #[.int .i64 (bufsK 20), .int .i64 2, .int .i64 0] else .tuple #[.int .i64 (bufsK k), .int .i64 n, .int .i64 0]
def shape0 : Value := .tuple #[.int .i64 (-1), .int .i64 (-1), .int .i64 (-1)]
end Go.Proofs.YtfepbpibhcfjdaaDoor.Kit
namespace Go.Proofs.YtfepbpibhcfjdaaDoor.Kit
open Go.RowKit Go.Shelf Go.Deep
set_option linter.unusedVariables false
attribute [local go_sem] run_store_func

/-! ### parts -/
def endsFT : FT := ⟨⟨#[101, 110, 100, 115]⟩, false, 5, 0, 0, 0, []⟩
def partsL (z : Bool) (f : FT) : List FT := if z = false ∨ f.kind = 19 then [] else if f.kind = 20 then [endsFT, f.kids[0]!] else f.kids
def PartsQ (W : World) (D : Nat) (l : List FT) (e : Ending) (w' : World) : Prop := ∃ vo vc, e = .returned (.slice vo l.length vc) ∧ Gr W w' ∧ l.length ≤ vc ∧ RowAt (fun b => b < w'.heap.size) w' D vo l
theorem partsQ_none {W w' : World} {D : Nat} (g : Gr W w') : PartsQ W D [] (.returned (.slice none 0 0)) w' := ⟨none, 0, rfl, g, Nat.le_refl _, row_none _ _ _ _⟩
/-- the two of a Runs -/
theorem partsQ_two {W w' : World} {d b : Nat} {h : FT} {ho : Option Addr} {hc : Nat} (g : Gr W w') (hb : w'.heap[b]? = some (.cells #[.string ⟨#[101, 110, 100, 115]⟩, .bool false, .int .i64 5, .int .i64 0, .int .i64 0, .int .i64 0, .slice none 0 0, .string h.name, .bool h.nul, .int .i64 h.kind, .int .i64 h.width, .int .i64 h.id, .int .i64 h.index, .slice ho h.kids.length hc] 35)) (hr : RowAt (fun b => b < w'.heap.size) w' d ho h.kids) (hle : h.kids.length ≤ hc) :
    PartsQ W (d + 1) [endsFT, h] (.returned (.slice (some ⟨b, 0, none⟩) 2 2)) w' := by
  refine ⟨some ⟨b, 0, none⟩, 2, rfl, g, by simp, by simp [big], fun _ => ⟨b, 0, rfl, lt_of_heap hb, fun i hi => ?_⟩⟩
  have hi2 : i = 0 ∨ i = 1 := by simp at hi; omega
  rcases hi2 with rfl | rfl
  · exact ⟨none, 0, ⟨by simp [World.cell?, hb, endsFT, FT.name], by simp [World.cell?, hb, endsFT, FT.nul], by simp [World.cell?, hb, endsFT, FT.kind], by simp [World.cell?, hb, endsFT, FT.width], by simp [World.cell?, hb, endsFT, FT.id], by simp [World.cell?, hb, endsFT, FT.index], by simp [World.cell?, hb, endsFT, FT.kids]⟩, by simp [endsFT, FT.kids], row_none _ _ _ _⟩
  · exact ⟨ho, hc, ⟨by simp [World.cell?, hb], by simp [World.cell?, hb], by simp [World.cell?, hb], by simp [World.cell?, hb], by simp [World.cell?, hb], by simp [World.cell?, hb], by simp [World.cell?, hb]⟩, hle, hr⟩
/-- the only child of a Runs -/
theorem runs_kid {S : Nat → Prop} {W : World} {d : Nat} {ao : Option Addr} {l : List FT} (h : RowAt S W d ao l) (h1 : l.length = 1) : ∃ d' b o hd ho hc, d = d' + 1 ∧ l = [hd] ∧ ao = some ⟨b, o, none⟩ ∧ CellsAt W b o hd ho hc ∧ hd.kids.length ≤ hc ∧ RowAt S W d' ho hd.kids := by
  obtain ⟨hd, rfl⟩ := List.length_eq_one_iff.1 h1
  cases d with
  | zero => have h' : [hd] = [] := h; cases h'
  | succ d =>
    obtain ⟨b, o, e, _, hc⟩ := h.2 (by simp)
    obtain ⟨ho, hcc, c1, c2, c3⟩ := hc 0 (by simp)
    exact ⟨d, b, o, hd, ho, hcc, rfl, rfl, e, by simpa using c1, c2, c3⟩
structure PB (W V : World) (X b o : Nat) (hd : FT) (ho : Option Addr) (hc ca : Nat) : Prop where
  g : Gr W V
  x : V.cell? ⟨X, 4, none⟩ = some (.slice (some ⟨b, o, none⟩) 1 ca)
  c : CellsAt V b o hd ho hc
theorem pb_of {W V : World} {X b o ca hc : Nat} {hd : FT} {ho : Option Addr} (h : PB W V X b o hd ho hc ca) : Hid (PB W V X b o hd ho hc ca) ∧ V.cell? ⟨X, 4, none⟩ = some (.slice (some ⟨b, o, none⟩) 1 ca) ∧ V.cell? ⟨b, o, none⟩ = some (.string hd.name) ∧ V.cell? ⟨b, o + 1, none⟩ = some (.bool hd.nul) ∧ V.cell? ⟨b, o + 2, none⟩ = some (.int .i64 hd.kind) ∧ V.cell? ⟨b, o + 3, none⟩ = some (.int .i64 hd.width) ∧ V.cell? ⟨b, o + 4, none⟩ = some (.int .i64 hd.id) ∧ V.cell? ⟨b, o + 5, none⟩ = some (.int .i64 hd.index) ∧ V.cell? ⟨b, o + 6, none⟩ = some (.slice ho hd.kids.length hc) := ⟨h, h.x, h.c.c0, h.c.c1, h.c.c2, h.c.c3, h.c.c4, h.c.c5, h.c.c6⟩
theorem PB.gr {W V : World} {X b o ca hc : Nat} {hd : FT} {ho : Option Addr} (h : PB W V X b o hd ho hc ca) {V' : World} (k : Gr V V') : PB W V' X b o hd ho hc ca := ⟨h.g.trans k (fun _ _ h => h), k.cell' h.x id, h.c.kept (k.block _ (block_lt_of_cell h.c.c0) id)⟩
theorem pb_kept {W V : World} {X b o ca hc : Nat} {hd : FT} {ho : Option Addr} {V' : World} (h : Hid (PB W V X b o hd ho hc ca) ∧ V.cell? ⟨X, 4, none⟩ = some (.slice (some ⟨b, o, none⟩) 1 ca) ∧ V.cell? ⟨b, o, none⟩ = some (.string hd.name) ∧ V.cell? ⟨b, o + 1, none⟩ = some (.bool hd.nul) ∧ V.cell? ⟨b, o + 2, none⟩ = some (.int .i64 hd.kind) ∧ V.cell? ⟨b, o + 3, none⟩ = some (.int .i64 hd.width) ∧ V.cell? ⟨b, o + 4, none⟩ = some (.int .i64 hd.id) ∧ V.cell? ⟨b, o + 5, none⟩ = some (.int .i64 hd.index) ∧ V.cell? ⟨b, o + 6, none⟩ = some (.slice ho hd.kids.length hc)) (k : Hid (Gr V V')) : Hid (PB W V' X b o hd ho hc ca) ∧ V'.cell? ⟨X, 4, none⟩ = some (.slice (some ⟨b, o, none⟩) 1 ca) ∧ V'.cell? ⟨b, o, none⟩ = some (.string hd.name) ∧ V'.cell? ⟨b, o + 1, none⟩ = some (.bool hd.nul) ∧ V'.cell? ⟨b, o + 2, none⟩ = some (.int .i64 hd.kind) ∧ V'.cell? ⟨b, o + 3, none⟩ = some (.int .i64 hd.width) ∧ V'.cell? ⟨b, o + 4, none⟩ = some (.int .i64 hd.id) ∧ V'.cell? ⟨b, o + 5, none⟩ = some (.int .i64 hd.index) ∧ V'.cell? ⟨b, o + 6, none⟩ = some (.slice ho hd.kids.length hc) := pb_of (h.1.out.gr k.out)
end Go.Proofs.YtfepbpibhcfjdaaDoor.Kit
