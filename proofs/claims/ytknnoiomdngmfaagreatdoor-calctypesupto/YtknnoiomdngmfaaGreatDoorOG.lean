import Derived.Test.YtknnoiomdngmfaaGreatDoorLQ
import Derived.Test.YtknnoiomdngmfaaGreatDoorMF
import Derived.Test.YtknnoiomdngmfaaGreatDoorMC
import Derived.Test.YtknnoiomdngmfaaGreatDoorND
import Derived.Deep.RegionHeld3
set_option maxRecDepth 100000
set_option maxHeartbeats 4000000
namespace Go.Proofs.YtknnoiomdngmfaaGreatDoor.Kit
open Go.RowKit Go.Shelf Go.Deep
set_option linter.unusedVariables false
attribute [local go_sem] run_store_func
structure Fld (S : Nat → Prop) (w : World) (d : Nat) (f : FT) (ao : Option Addr) (ca : Nat) : Prop where
  row : RowAt S w d ao f.kids
  le : f.kids.length ≤ ca
theorem Fld.gr {S : Nat → Prop} {w W : World} {d : Nat} {f : FT} {ao : Option Addr} {ca : Nat} (h : Fld S w d f ao ca) (hS : ∀ b, S b → b < w.heap.size) (g : Gr w W) : Fld S W d f ao ca := ⟨h.row.kept fun b hb => g.block b (hS b hb) id, h.le⟩
theorem fieldMayBe_gen {S : Nat → Prop} {d : Nat} {f : FT} {ao : Option Addr} {ca : Nat} {w : World} {er tt : Int} {p : List Nat} (hT : Tab w) (h : Fld S w d f ao ca) (hd : d + 1 ≤ big) (hS : ∀ b, S b → b < w.heap.size) (hF : FaultIs (0, 0) (nodes (d + 1) [f] [] false) er p tt) :
    Ans 108 #[.agg #[.string f.name, .bool f.nul, .int .i64 f.kind, .int .i64 f.width, .int .i64 f.id, .int .i64 f.index, .slice ao f.kids.length ca]] (er == 0) w := by
  intro W g
  have HM : Hid (∀ (W1 : World) (b : Nat), Gr W W1 → W.heap.size ≤ b → W1.heap[b]? = some (.cells #[.string f.name, .bool f.nul, .int .i64 f.kind, .int .i64 f.width, .int .i64 f.id, .int .i64 f.index, .slice ao f.kids.length ca] 26) → Calls Tryz.prog 32 #[.agg #[.slice (some ⟨b, 0, none⟩) 1 1, .slice none 0 0]] W1 fun e w' => e = .returned (.bool (er == 0)) ∧ Gr W1 w') := by
    intro W1 b g1 hb hx
    have g' : Gr w W1 := g.tr g1
    have hrow := row_alone hx (h.row.kept fun b h => g'.block b (hS b h) id) h.le
    have hs : Sch (fun c => S c ∨ c = b) W1 (d + 1) (some ⟨b, 0, none⟩) none 1 0 [f] [] := ⟨hrow, by simp, notes_none W1⟩
    obtain ⟨er', p', tt', t⟩ := hs.tells (hT.gr g') hd (fun c h => h.elim (fun h => Nat.lt_of_lt_of_le (hS c h) g'.size) fun h => by rw [h]; exact lt_of_heap hx)
    obtain ⟨rfl, rfl, rfl⟩ := hF.one t.is
    exact maybe_gen t.t11 W1 (Keeps.refl _ _)
  have hal := alone_any f.name f.nul f.kind f.width f.id f.index ao f.kids.length ca (W.alloc (.cells #[.string f.name, .bool f.nul, .int .i64 f.kind, .int .i64 f.width, .int .i64 f.id, .int .i64 f.index, .slice ao f.kids.length ca] 26))
  have HA := hidM hal
  clear hal h g hF
  generalize f.name = f0 at *
  generalize f.nul = f1 at *
  generalize f.kind = f2 at *
  generalize f.width = f3 at *
  generalize f.id = f4 at *
  generalize f.index = f5 at *
  generalize f.kids.length = f6 at *
  go_enter Tryz.func108, Tryz.ntmps108
  go_wp2_with (go_at_call 45; refine Hid.out ?_)
  unfold Hid
  refine Calls.mono HA.out ?_
  rintro e W1 ⟨b, rfl, hg1, hb, hx⟩
  have HC := hidM (HM.out W1 b ((gr_alloc W _).tr hg1) (by simp at hb; omega) hx)
  have HG := hidM ((gr_alloc W _).tr hg1)
  clear hg1 hb hx HM HA
  go_wp2_with (go_at_call 32; refine Hid.out ?_)
  unfold Hid
  refine Calls.mono HC.out ?_
  rintro e W2 ⟨rfl, hg2⟩
  have HE := hidM (HG.out.tr hg2)
  clear hg2
  go_wp2_with fail
  go_ret
  exact ⟨rfl, HE.out⟩
theorem mayBeR_gen {S : Nat → Prop} {d : Nat} {f : FT} {ao : Option Addr} {ca : Nat} {w : World} {er tt : Int} {p : List Nat} (h : Fld S w d f ao ca) (hS : ∀ b, S b → b < w.heap.size) (hF : FaultIs (0, 0) (nodes (d + 1) [f] [] false) er p tt) :
    Ans 16 #[.agg #[.string f.name, .bool f.nul, .int .i64 f.kind, .int .i64 f.width, .int .i64 f.id, .int .i64 f.index, .slice ao f.kids.length ca]] (er == 0) w := by
  intro W g
  have HC : Hid (∀ W1, Gr W W1 → Calls Tryz.prog 34 #[.agg #[.string f.name, .bool f.nul, .int .i64 f.kind, .int .i64 f.width, .int .i64 f.id, .int .i64 f.index, .slice ao f.kids.length ca]] W1 fun e w' => ∃ vo vn vc, e = .returned (.agg #[.int .i64 er, .slice vo vn vc, .int .i64 tt]) ∧ Gr W1 w') := fun W1 g1 => by
    have g' : Gr w W1 := g.tr g1
    refine Calls.mono (checkFieldR_any S d f ao ca W1 (h.row.kept fun b hb => g'.block b (hS b hb) id) h.le (fun b hb => by have := hS b hb; have := g'.size; omega)) ?_
    rintro e w' ⟨er', p', vo, vc, tt', rfl, hg, h1, h2⟩
    obtain ⟨rfl, rfl, rfl⟩ := hF.cut.one h1
    exact ⟨vo, _, vc, rfl, hg⟩
  clear h g hF
  have hfl : ∀ vo vn vc w, (Instr.field 60 (.agg #[.int .i64 er, .slice vo vn vc, .int .i64 tt]) 0).run Tryz.prog w = .ok (.int .i64 er) w := fun vo vn vc w => by kernel_rfl
  generalize f.name = f0 at *
  generalize f.nul = f1 at *
  generalize f.kind = f2 at *
  generalize f.width = f3 at *
  generalize f.id = f4 at *
  generalize f.index = f5 at *
  generalize f.kids.length = f6 at *
  go_enter Tryz.func16, Tryz.ntmps16
  go_wp2_with (go_at_call 34; refine Hid.out ?_)
  unfold Hid
  refine Calls.mono (HC.out _ (gr_alloc W _)) ?_
  rintro e W1 ⟨vo, vn, vc, rfl, hg1⟩
  have HE := hidM ((gr_alloc W _).tr hg1)
  clear hg1
  go_wp2_with fail
  go_ret
  exact ⟨rfl, HE.out⟩
def nulA (f : FT) : Bool := if f.kind = 20 ∧ f.kids ≠ [] then kid0 f else decide (f.kind = 1)
def nulR (f : FT) : Bool := decide (f.kind = 1) || (decide (f.kind = 20) && decide (f.kids.length = 1) && kid0 f)
def holdA (f : FT) : FT := ⟨⟨#[97]⟩, nulA f, f.kind, f.width, f.id, f.index, f.kids⟩
def holdR (f : FT) : FT := ⟨⟨#[97]⟩, nulR f, f.kind, f.width, f.id, f.index, f.kids⟩
theorem kid0_cell {S : Nat → Prop} {W : World} {D : Nat} {fo : Option Addr} {f : FT} (h : RowAt S W D fo f.kids) (hne : f.kids ≠ []) : ∃ b o, fo = some ⟨b, o, none⟩ ∧ W.cell? ⟨b, o + 1, none⟩ = some (.bool (kid0 f)) := kids_cell h hne
theorem asField_any (S : Nat → Prop) (d : Nat) (f : FT) (ao : Option Addr) (ca : Nat) (w : World) (h : Fld S w d f ao ca) (hS : ∀ b, S b → b < w.heap.size) :
    Calls Tryz.prog 109 #[.agg #[.int .i64 f.kind, .int .i64 f.width, .int .i64 f.id, .int .i64 f.index, .slice ao f.kids.length ca]] w fun e w' => e = .returned (.agg #[.string ⟨#[97]⟩, .bool (nulA f), .int .i64 f.kind, .int .i64 f.width, .int .i64 f.id, .int .i64 f.index, .slice ao f.kids.length ca]) ∧ Gr w w' := by
  have hl : f.kids.length ≤ 1000000000000 := h.row.len
  have hle := h.le
  have HK : Hid (f.kids ≠ [] → ∃ b o, ao = some ⟨b, o, none⟩ ∧ w.cell? ⟨b, o + 1, none⟩ = some (.bool (kid0 f))) := fun hne => kid0_cell h.row hne
  obtain ⟨z, hz⟩ : ∃ z, z = nulA f := ⟨_, rfl⟩
  rw [← hz]
  unfold nulA at hz
  obtain ⟨n, hn⟩ : ∃ n, n = f.kids.length := ⟨_, rfl⟩
  rw [← hn] at hl hle ⊢
  have hne : f.kids ≠ [] ↔ 0 < n := by rw [hn]; exact List.length_pos_iff.symm
  have HZ := hidM hz
  have HNE := hidM hne
  clear h hz hn hne
  generalize f.kind = k at *
  generalize f.width = wd at *
  generalize f.id = i at *
  generalize f.index = x at *
  have fin : ∀ (w3 : World), w3 = ((((((((w.alloc (.cells #[.int .i64 k, .int .i64 wd, .int .i64 i, .int .i64 x, .slice ao n ca] 24)).alloc (.cells #[.string ⟨#[97]⟩, .bool z, .int .i64 k, .int .i64 wd, .int .i64 i, .int .i64 x, .slice ao n ca] 26))))))) ) → Gr w w3 := fun w3 e => by rw [e]; exact (gr_alloc w _).alloc _
  have HFin := hidM fin
  clear fin
  have hb2 : ∀ (c : Array Value), ((w.alloc (.cells #[.int .i64 k, .int .i64 wd, .int .i64 i, .int .i64 x, .slice ao n ca] 24)).alloc (.cells c 26)).heap[w.heap.size + 1]? = some (.cells c 26) := fun c => by
    have := World.alloc_heap_new (w.alloc (.cells #[.int .i64 k, .int .i64 wd, .int .i64 i, .int .i64 x, .slice ao n ca] 24)) (.cells c 26)
    rw [World.size_alloc] at this
    exact this
  have HB := hidM hb2
  clear hb2
  by_cases h20 : k = 20
  · subst h20
    by_cases hn0 : 0 < n
    · obtain ⟨b, o, rfl, hc⟩ := HK.out (HNE.out.2 hn0)
      have hzz : z = kid0 f := by rw [HZ.out, if_pos ⟨rfl, HNE.out.2 hn0⟩]
      rw [← hzz] at hc
      have hc' := fun (o1 : Obj) => (gr_alloc w o1).cell' hc id
      have hc2 := fun (o1 o2 : Obj) => ((gr_alloc w o1).alloc o2).cell' hc id
      have hnI : (0 : Int) < (n : Int) := by omega
      clear hc hzz
      go_enter Tryz.func109, Tryz.ntmps109
      go_wp2
      obtain ⟨v0, v1, v2, v3, v4, v5, v6⟩ := cell7 (HB.out #[.string ⟨#[97]⟩, .bool z, .int .i64 20, .int .i64 wd, .int .i64 i, .int .i64 x, .slice (some ⟨b, o, none⟩) n ca])
      simp only [Nat.zero_add] at v1 v2 v3 v4 v5 v6
      refine bodyPost_ret (v := .agg #[.string ⟨#[97]⟩, .bool z, .int .i64 20, .int .i64 wd, .int .i64 i, .int .i64 x, .slice (some ⟨b, o, none⟩) n ca]) ?_ rfl ⟨rfl, HFin.out _ rfl⟩
      simp [results, Tryz.f109, go_sem, v0, v1, v2, v3, v4, v5, v6]
    have hzz : z = false := by rw [HZ.out, if_neg (fun h => hn0 (HNE.out.1 h.2))]; rfl
    subst hzz
    have hn00 : n = 0 := by omega
    subst hn00
    go_enter Tryz.func109, Tryz.ntmps109
    go_wp2
    obtain ⟨v0, v1, v2, v3, v4, v5, v6⟩ := cell7 (HB.out #[.string ⟨#[97]⟩, .bool false, .int .i64 20, .int .i64 wd, .int .i64 i, .int .i64 x, .slice ao 0 ca])
    simp only [Nat.zero_add] at v1 v2 v3 v4 v5 v6
    refine bodyPost_ret (v := .agg #[.string ⟨#[97]⟩, .bool false, .int .i64 20, .int .i64 wd, .int .i64 i, .int .i64 x, .slice ao 0 ca]) ?_ rfl ⟨rfl, HFin.out _ rfl⟩
    simp [results, Tryz.f109, go_sem, v0, v1, v2, v3, v4, v5, v6]
  have hzz : z = (k == 1) := by
    rw [HZ.out, if_neg (fun h => h20 h.1)]
    by_cases h1 : k = 1 <;> simp [h1]
  have h20b := beqZ h20
  have HZZ := hidM hzz.symm
  clear hzz
  go_enter Tryz.func109, Tryz.ntmps109
  go_wp2
  rw [HZZ.out]
  obtain ⟨v0, v1, v2, v3, v4, v5, v6⟩ := cell7 (HB.out #[.string ⟨#[97]⟩, .bool z, .int .i64 k, .int .i64 wd, .int .i64 i, .int .i64 x, .slice ao n ca])
  simp only [Nat.zero_add] at v1 v2 v3 v4 v5 v6
  refine bodyPost_ret (v := .agg #[.string ⟨#[97]⟩, .bool z, .int .i64 k, .int .i64 wd, .int .i64 i, .int .i64 x, .slice ao n ca]) ?_ rfl ⟨rfl, HFin.out _ rfl⟩
  simp [results, Tryz.f109, go_sem, v0, v1, v2, v3, v4, v5, v6]
end Go.Proofs.YtknnoiomdngmfaaGreatDoor.Kit
namespace Go.Proofs.YtknnoiomdngmfaaGreatDoor.Kit
open Go.RowKit Go.Shelf Go.Deep
set_option linter.unusedVariables false
attribute [local go_sem] run_store_func
theorem holder_any (S : Nat → Prop) (d : Nat) (f : FT) (ao : Option Addr) (ca : Nat) (w : World) (h : Fld S w d f ao ca) (hS : ∀ b, S b → b < w.heap.size) :
    Calls Tryz.prog 37 #[.agg #[.int .i64 f.kind, .int .i64 f.width, .int .i64 f.id, .int .i64 f.index, .slice ao f.kids.length ca]] w fun e w' => e = .returned (.agg #[.string ⟨#[97]⟩, .bool (nulR f), .int .i64 f.kind, .int .i64 f.width, .int .i64 f.id, .int .i64 f.index, .slice ao f.kids.length ca]) ∧ Gr w w' := by
  have hl : f.kids.length ≤ 1000000000000 := h.row.len
  have hle := h.le
  have HK : Hid (f.kids ≠ [] → ∃ b o, ao = some ⟨b, o, none⟩ ∧ w.cell? ⟨b, o + 1, none⟩ = some (.bool (kid0 f))) := fun hne => kid0_cell h.row hne
  obtain ⟨z, hz⟩ : ∃ z, z = nulR f := ⟨_, rfl⟩
  rw [← hz]
  unfold nulR at hz
  obtain ⟨n, hn⟩ : ∃ n, n = f.kids.length := ⟨_, rfl⟩
  rw [← hn] at hl hle hz ⊢
  have hne : 0 < n → f.kids ≠ [] := by rw [hn]; exact List.length_pos_iff.1
  have HZ := hidM hz
  have HNE := hidM hne
  clear h hz hn hne
  generalize f.kind = k at *
  generalize f.width = wd at *
  generalize f.id = i at *
  generalize f.index = x at *
  obtain ⟨W3, hW3⟩ := ex (((w.alloc (.cells #[.int .i64 k, .int .i64 wd, .int .i64 i, .int .i64 x, .slice ao n ca] 24)).alloc (.cells #[.string ⟨#[]⟩, .bool false, .int .i64 0, .int .i64 0, .int .i64 0, .int .i64 0, .slice none 0 0] 26)).alloc (.cells #[.string ⟨#[97]⟩, .bool false, .int .i64 k, .int .i64 wd, .int .i64 i, .int .i64 x, .slice ao n ca] 26))
  have hg3 : Gr w W3 := by rw [← hW3]; exact ((gr_alloc w _).alloc _).alloc _
  have x1 : W3.heap[w.heap.size]? = some (.cells #[.int .i64 k, .int .i64 wd, .int .i64 i, .int .i64 x, .slice ao n ca] 24) := by
    rw [← hW3]; exact (Below.heap_alloc _ _ _ (by simp; omega)).trans ((Below.heap_alloc _ _ _ (by simp)).trans (World.alloc_heap_new w _))
  have x2 : W3.heap[w.heap.size + 1]? = some (.cells #[.string ⟨#[]⟩, .bool false, .int .i64 0, .int .i64 0, .int .i64 0, .int .i64 0, .slice none 0 0] 26) := by
    rw [← hW3]
    have := World.alloc_heap_new (w.alloc (.cells #[.int .i64 k, .int .i64 wd, .int .i64 i, .int .i64 x, .slice ao n ca] 24)) (.cells #[.string ⟨#[]⟩, .bool false, .int .i64 0, .int .i64 0, .int .i64 0, .int .i64 0, .slice none 0 0] 26)
    rw [World.size_alloc] at this
    exact (Below.heap_alloc _ _ _ (by simp)).trans this
  have x3 : W3.heap[w.heap.size + 1 + 1]? = some (.cells #[.string ⟨#[97]⟩, .bool false, .int .i64 k, .int .i64 wd, .int .i64 i, .int .i64 x, .slice ao n ca] 26) := by
    rw [← hW3]
    have := World.alloc_heap_new ((w.alloc (.cells #[.int .i64 k, .int .i64 wd, .int .i64 i, .int .i64 x, .slice ao n ca] 24)).alloc (.cells #[.string ⟨#[]⟩, .bool false, .int .i64 0, .int .i64 0, .int .i64 0, .int .i64 0, .slice none 0 0] 26)) (.cells #[.string ⟨#[97]⟩, .bool false, .int .i64 k, .int .i64 wd, .int .i64 i, .int .i64 x, .slice ao n ca] 26)
    rw [World.size_alloc, World.size_alloc] at this
    exact this
  have a0 : W3.cell? ⟨w.heap.size, 0, none⟩ = some (.int .i64 k) := by simp [World.cell?, x1]
  have a4 : W3.cell? ⟨w.heap.size, 4, none⟩ = some (.slice ao n ca) := by simp [World.cell?, x1]
  have HCz : Hid (0 < n → ∃ b o, ao = some ⟨b, o, none⟩ ∧ W3.cell? ⟨b, o + 1, none⟩ = some (.bool (kid0 f))) := fun h0 => by
    obtain ⟨b, o, e, hc⟩ := HK.out (HNE.out h0)
    exact ⟨b, o, e, hg3.cell' hc id⟩
  -- the store of the bool, then of the whole
  have s1 := setc (j := 1) x3 (.bool z)
  obtain ⟨W4, hW4⟩ := ex (W3.setCell ⟨w.heap.size + 1 + 1, 1, none⟩ (.bool z))
  have k4 : Keeps W3 W4 (fun b => b = w.heap.size + 1 + 1) := by rw [← hW4]; exact keep1 (j := 1) (Keeps.refl W3 _) _
  have y3 : W4.heap[w.heap.size + 1 + 1]? = some (.cells #[.string ⟨#[97]⟩, .bool z, .int .i64 k, .int .i64 wd, .int .i64 i, .int .i64 x, .slice ao n ca] 26) := by rw [← hW4, s1]; simp
  have y2 : W4.heap[w.heap.size + 1]? = _ := (k4.block _ (lt_of_heap x2) (by simp)).trans x2
  have s7 := set7 (.string ⟨#[97]⟩) (.bool z) (.int .i64 k) (.int .i64 wd) (.int .i64 i) (.int .i64 x) (.slice ao n ca) y2
  have HE : Hid (∃ w5, w5 = (((((((W4.setCell ⟨w.heap.size + 1, 0, none⟩ (.string ⟨#[97]⟩)).setCell ⟨w.heap.size + 1, 1, none⟩ (.bool z)).setCell ⟨w.heap.size + 1, 2, none⟩ (.int .i64 k)).setCell ⟨w.heap.size + 1, 3, none⟩ (.int .i64 wd)).setCell ⟨w.heap.size + 1, 4, none⟩ (.int .i64 i)).setCell ⟨w.heap.size + 1, 5, none⟩ (.int .i64 x)).setCell ⟨w.heap.size + 1, 6, none⟩ (.slice ao n ca)) ∧ w5.heap[w.heap.size + 1]? = some (.cells #[.string ⟨#[97]⟩, .bool z, .int .i64 k, .int .i64 wd, .int .i64 i, .int .i64 x, .slice ao n ca] 26) ∧ Gr w w5) :=
    ⟨_, rfl, s7.1, (hg3.trans k4 (fun j hj h => by omega)).trans s7.2 (fun j hj h => by omega)⟩
  obtain ⟨c0, c1, c2, c3, c4, c5, c6⟩ := cell7 y3
  obtain ⟨b0, b1, b2, b3, b4, b5, b6⟩ := cell7 y2
  simp only [Nat.zero_add] at b1 b2 b3 b4 b5 b6 c1 c2 c3 c4 c5 c6
  have e1 : W3.cell? ⟨w.heap.size + 1 + 1, 1, none⟩ = some (.bool false) := by simp [World.cell?, x3]
  have e2 := frz x3 1
  obtain ⟨z0, z1, z2, z3, z4, z5, z6⟩ := frz7 y2
  clear x1 x2 x3 s1 y2 y3 s7 k4 hg3 HK HNE
  have FIN : True := trivial
  by_cases h1 : k = 1
  · subst h1
    obtain rfl : z = true := by rw [HZ.out]; simp
    go_enter Tryz.func37, Tryz.ntmps37
    go_wp2
    obtain ⟨w5, hw5, hb5, hg5⟩ := HE.out
    rw [← hw5]
    obtain ⟨v0, v1, v2, v3, v4, v5, v6⟩ := cell7 hb5
    simp only [Nat.zero_add] at v1 v2 v3 v4 v5 v6
    refine bodyPost_ret (v := .agg #[.string ⟨#[97]⟩, .bool true, .int .i64 1, .int .i64 wd, .int .i64 i, .int .i64 x, .slice ao n ca]) ?_ rfl ⟨rfl, hg5⟩
    simp [results, Tryz.f37, go_sem, v0, v1, v2, v3, v4, v5, v6]
  have h1b := beqZ h1
  by_cases h20 : k = 20
  · subst h20
    by_cases hn1 : n = 1
    · subst hn1
      obtain ⟨b, o, rfl, hc⟩ := HCz.out (by omega)
      have hzz : z = kid0 f := by rw [HZ.out]; simp
      rw [← hzz] at hc
      clear hzz
      go_enter Tryz.func37, Tryz.ntmps37
      go_wp2
      obtain ⟨w5, hw5, hb5, hg5⟩ := HE.out
      rw [← hw5]
      obtain ⟨v0, v1, v2, v3, v4, v5, v6⟩ := cell7 hb5
      simp only [Nat.zero_add] at v1 v2 v3 v4 v5 v6
      refine bodyPost_ret (v := .agg #[.string ⟨#[97]⟩, .bool z, .int .i64 20, .int .i64 wd, .int .i64 i, .int .i64 x, .slice (some ⟨b, o, none⟩) 1 ca]) ?_ rfl ⟨rfl, hg5⟩
      simp [results, Tryz.f37, go_sem, v0, v1, v2, v3, v4, v5, v6]
    have hn1b := beqZ (a := (n : Int)) (b := 1) (by omega)
    obtain rfl : z = false := by rw [HZ.out]; simp [hn1]
    go_enter Tryz.func37, Tryz.ntmps37
    go_wp2
    obtain ⟨w5, hw5, hb5, hg5⟩ := HE.out
    rw [← hw5]
    obtain ⟨v0, v1, v2, v3, v4, v5, v6⟩ := cell7 hb5
    simp only [Nat.zero_add] at v1 v2 v3 v4 v5 v6
    refine bodyPost_ret (v := .agg #[.string ⟨#[97]⟩, .bool false, .int .i64 20, .int .i64 wd, .int .i64 i, .int .i64 x, .slice ao n ca]) ?_ rfl ⟨rfl, hg5⟩
    simp [results, Tryz.f37, go_sem, v0, v1, v2, v3, v4, v5, v6]
  have h20b := beqZ h20
  obtain rfl : z = false := by rw [HZ.out]; simp [h1, h20]
  go_enter Tryz.func37, Tryz.ntmps37
  go_wp2
  obtain ⟨w5, hw5, hb5, hg5⟩ := HE.out
  rw [← hw5]
  obtain ⟨v0, v1, v2, v3, v4, v5, v6⟩ := cell7 hb5
  simp only [Nat.zero_add] at v1 v2 v3 v4 v5 v6
  refine bodyPost_ret (v := .agg #[.string ⟨#[97]⟩, .bool false, .int .i64 k, .int .i64 wd, .int .i64 i, .int .i64 x, .slice ao n ca]) ?_ rfl ⟨rfl, hg5⟩
  simp [results, Tryz.f37, go_sem, v0, v1, v2, v3, v4, v5, v6]
end Go.Proofs.YtknnoiomdngmfaaGreatDoor.Kit
namespace Go.Proofs.YtknnoiomdngmfaaGreatDoor.Kit
open Go.RowKit Go.Shelf Go.Deep
set_option linter.unusedVariables false
attribute [local go_sem] run_store_func
theorem type53_walk {S : Nat → Prop} {d : Nat} {f : FT} {ao : Option Addr} {ca : Nat} {w : World} {z : Bool} (h : Fld S w d f ao ca) (hS : ∀ b, S b → b < w.heap.size) (hm : Ans 108 #[.agg #[.string ⟨#[97]⟩, .bool (nulA f), .int .i64 f.kind, .int .i64 f.width, .int .i64 f.id, .int .i64 f.index, .slice ao f.kids.length ca]] z w) :
    Ans 74 #[.agg #[.int .i64 f.kind, .int .i64 f.width, .int .i64 f.id, .int .i64 f.index, .slice ao f.kids.length ca]] z w := by
  intro W g
  have HC : Hid (∀ W1, Gr W W1 → Calls Tryz.prog 109 #[.agg #[.int .i64 f.kind, .int .i64 f.width, .int .i64 f.id, .int .i64 f.index, .slice ao f.kids.length ca]] W1 fun e w' => e = .returned (.agg #[.string ⟨#[97]⟩, .bool (nulA f), .int .i64 f.kind, .int .i64 f.width, .int .i64 f.id, .int .i64 f.index, .slice ao f.kids.length ca]) ∧ Gr W1 w') := fun W1 g1 => by
    have g' : Gr w W1 := g.tr g1
    exact asField_any S d f ao ca W1 (h.gr hS g') (fun b hb => by have := hS b hb; have := g'.size; omega)
  have HM := hidM (hm.gr g)
  unfold Ans at HM
  clear h g hm
  generalize nulA f = f1 at *
  generalize f.kind = f2 at *
  generalize f.width = f3 at *
  generalize f.id = f4 at *
  generalize f.index = f5 at *
  generalize f.kids.length = f6 at *
  go_enter Tryz.func74, Tryz.ntmps74
  go_wp2_with (go_at_call 109; refine Hid.out ?_)
  unfold Hid
  refine Calls.mono (HC.out _ (gr_alloc W _)) ?_
  rintro e W1 ⟨rfl, hg1⟩
  have HG := hidM ((gr_alloc W _).tr hg1)
  clear hg1
  go_wp2_with (go_at_call 108; refine Hid.out ?_)
  unfold Hid
  refine Calls.mono (HM.out _ HG.out) ?_
  rintro e W2 ⟨rfl, hg2⟩
  have HE := hidM (HG.out.tr hg2)
  clear hg2
  go_wp2_with fail
  go_ret
  exact ⟨rfl, HE.out⟩
theorem type54_walk {S : Nat → Prop} {d : Nat} {f : FT} {ao : Option Addr} {ca : Nat} {w : World} {z : Bool} (h : Fld S w d f ao ca) (hS : ∀ b, S b → b < w.heap.size) (hm : Ans 16 #[.agg #[.string ⟨#[97]⟩, .bool (nulR f), .int .i64 f.kind, .int .i64 f.width, .int .i64 f.id, .int .i64 f.index, .slice ao f.kids.length ca]] z w) :
    Ans 35 #[.agg #[.int .i64 f.kind, .int .i64 f.width, .int .i64 f.id, .int .i64 f.index, .slice ao f.kids.length ca]] z w := by
  intro W g
  have HC : Hid (∀ W1, Gr W W1 → Calls Tryz.prog 37 #[.agg #[.int .i64 f.kind, .int .i64 f.width, .int .i64 f.id, .int .i64 f.index, .slice ao f.kids.length ca]] W1 fun e w' => e = .returned (.agg #[.string ⟨#[97]⟩, .bool (nulR f), .int .i64 f.kind, .int .i64 f.width, .int .i64 f.id, .int .i64 f.index, .slice ao f.kids.length ca]) ∧ Gr W1 w') := fun W1 g1 => by
    have g' : Gr w W1 := g.tr g1
    exact holder_any S d f ao ca W1 (h.gr hS g') (fun b hb => by have := hS b hb; have := g'.size; omega)
  have HM := hidM (hm.gr g)
  unfold Ans at HM
  clear h g hm
  generalize nulR f = f1 at *
  generalize f.kind = f2 at *
  generalize f.width = f3 at *
  generalize f.id = f4 at *
  generalize f.index = f5 at *
  generalize f.kids.length = f6 at *
  go_enter Tryz.func35, Tryz.ntmps35
  go_wp2_with (go_at_call 37; refine Hid.out ?_)
  unfold Hid
  refine Calls.mono (HC.out _ (gr_alloc W _)) ?_
  rintro e W1 ⟨rfl, hg1⟩
  have HG := hidM ((gr_alloc W _).tr hg1)
  clear hg1
  go_wp2_with (go_at_call 16; refine Hid.out ?_)
  unfold Hid
  refine Calls.mono (HM.out _ HG.out) ?_
  rintro e W2 ⟨rfl, hg2⟩
  have HE := hidM (HG.out.tr hg2)
  clear hg2
  go_wp2_with fail
  go_ret
  exact ⟨rfl, HE.out⟩
theorem nul_eq {f : FT} (h : f.kind = 20 → f.kids.length ≤ 1) : nulA f = nulR f := by
  unfold nulA nulR
  by_cases h20 : f.kind = 20
  · have := h h20
    cases hk : f.kids with
    | nil => simp [h20]
    | cons a t =>
      rw [hk] at this
      have ht : t = [] := by simpa using this
      subst ht
      simp [h20]
  simp [h20]
theorem nodes_cons (d : Nat) (g : FT) : nodes (d + 1) [g] [] false = ⟨[g], [0], false⟩ :: nodes d g.kids [0] (decide (g.kind = 19)) := by
  simp [nodes]
theorem AllR.table {d : Nat} {g : FT} (h : AllR (nodes (d + 1) [g] [] false)) : tableB g = true := by
  have h0 := h 0 (by rw [nodes_cons]; simp)
  have hx : (nodes (d + 1) [g] [] false)[0]'(by rw [nodes_cons]; simp) = ⟨[g], [0], false⟩ := by simp [nodes_cons]
  rw [hx] at h0
  have hf : LS.fld ⟨[g], [0], false⟩ = g := by simp [LS.fld, LS.idx]
  unfold wrongE at h0
  have := wr_tab h0
  rwa [hf] at this
theorem runs_one {g : FT} (h : tableB g = true) (hk : g.kind = 20) : g.kids.length ≤ 1 := by
  simp [tableB, hk, mostK, leastK] at h
  omega
theorem both_type {S : Nat → Prop} {d : Nat} {f : FT} {ao : Option Addr} {ca : Nat} {w : World} (hT : Tab w) (h : Fld S w d f ao ca) (hd : d + 1 ≤ big) (hS : ∀ b, S b → b < w.heap.size) :
    ∃ z : Bool, Ans 74 #[.agg #[.int .i64 f.kind, .int .i64 f.width, .int .i64 f.id, .int .i64 f.index, .slice ao f.kids.length ca]] z w ∧ Ans 35 #[.agg #[.int .i64 f.kind, .int .i64 f.width, .int .i64 f.id, .int .i64 f.index, .slice ao f.kids.length ca]] z w ∧ (z = true → nulA f = nulR f ∧ AllR (nodes (d + 1) [holdA f] [] false)) := by
  obtain ⟨er, p, tt, hA⟩ := fault_is (0, 0) (nodes (d + 1) [holdA f] [] false)
  obtain ⟨er', p', tt', hR⟩ := fault_is (0, 0) (nodes (d + 1) [holdR f] [] false)
  have a53 : Ans 74 #[.agg #[.int .i64 f.kind, .int .i64 f.width, .int .i64 f.id, .int .i64 f.index, .slice ao f.kids.length ca]] (er == 0) w := type53_walk h hS (fieldMayBe_gen (f := holdA f) hT ⟨h.row, h.le⟩ hd hS hA)
  have a54 : Ans 35 #[.agg #[.int .i64 f.kind, .int .i64 f.width, .int .i64 f.id, .int .i64 f.index, .slice ao f.kids.length ca]] (er' == 0) w := type54_walk h hS (mayBeR_gen (f := holdR f) ⟨h.row, h.le⟩ hS hR)
  by_cases hk : f.kind = 20 → f.kids.length ≤ 1
  · have e := nul_eq hk
    have he : holdR f = holdA f := by unfold holdR holdA; rw [e]
    rw [he] at hR
    obtain ⟨rfl, rfl, rfl⟩ := hA.one hR
    refine ⟨_, a53, a54, fun hz => ⟨e, ?_⟩⟩
    have h0 : er = 0 := by simpa using hz
    subst h0
    exact hA.zero.2
  have hk' : f.kind = 20 ∧ ¬ f.kids.length ≤ 1 := by
    refine ⟨Classical.byContradiction fun h => hk fun e => absurd e h, fun h => hk fun _ => h⟩
  have h1 : er ≠ 0 := fun e => by subst e; exact hk'.2 (runs_one (g := holdA f) hA.zero.2.table hk'.1)
  have h2 : er' ≠ 0 := fun e => by subst e; exact hk'.2 (runs_one (g := holdR f) hR.zero.2.table hk'.1)
  rw [beqZ h1] at a53
  rw [beqZ h2] at a54
  exact ⟨false, a53, a54, fun h => by cases h⟩
theorem sameAll_congr {α : Type} {p q : α → α → Bool} : ∀ {a b : List α}, (∀ x ∈ a, ∀ y ∈ b, p x y = q x y) → sameAll p a b = sameAll q a b
  | [], [], _ => rfl
  | [], _ :: _, _ => rfl
  | _ :: _, [], _ => rfl
  | x :: a, y :: b, h => by
    rw [sameAll, sameAll, h x (by simp) y (by simp), sameAll_congr fun x hx y hy => h x (by simp [hx]) y (by simp [hy])]
theorem alikeB_false {d : Nat} {a b : FT} (ha : deep d a.kids) (hb : deep d b.kids) : alikeB false 1 1 (nodes (d + 1) [a] [] false) (nodes (d + 1) [b] [] false) = ((a.nul == b.nul) && (tyEq a b && sameLs d a.kids b.kids)) := by
  have hfa : ∀ g : FT, LS.fld ⟨[g], [0], false⟩ = g := fun g => by simp [LS.fld, LS.idx]
  have e1 : ndEq false ⟨[a], [0], false⟩ ⟨[b], [0], false⟩ = nodeEq a b := by simp [ndEq, hfa]
  have e2 : sameAll (ndEq false) (nodes d a.kids [0] (decide (a.kind = 19))) (nodes d b.kids [0] (decide (b.kind = 19))) = sameAll nmEq (pre d a.kids) (pre d b.kids) := by
    rw [← nodes_pre d a.kids [0] (decide (a.kind = 19)), ← nodes_pre d b.kids [0] (decide (b.kind = 19)), sameAll_map]
    refine sameAll_congr fun x hx y _ => ?_
    have := nodes_path d _ _ _ x hx
    simp at this
    simp [ndEq, nmEq, this]
  unfold alikeB
  rw [nodes_cons, nodes_cons, sameAll, e1, e2]
  by_cases hl : a.kids.length = b.kids.length
  · have := pre_same d a.kids b.kids [] [] ha hb hl
    simp only [List.append_nil] at this
    rw [this]
    simp [nodeEq, hl, sameAll, Bool.and_assoc]
  have h2 : sameLs d a.kids b.kids = false := by
    cases d with
    | zero => rw [sameLs]; exact sameAll_len hl
    | succ d => rw [sameLs_succ]; exact sameAll_len hl
  simp [nodeEq, hl, h2]
end Go.Proofs.YtknnoiomdngmfaaGreatDoor.Kit
namespace Go.Proofs.YtknnoiomdngmfaaGreatDoor.Kit
open Go.RowKit Go.Shelf Go.Deep
set_option linter.unusedVariables false
attribute [local go_sem] run_store_func
structure B2t (w W : World) (X : Nat) (c d : Array Value) (t : Nat) : Prop where
  g : Gr w W
  b0 : W.heap[X]? = some (.cells c t)
  b1 : W.heap[X + 1]? = some (.cells d t)
theorem B2t.gr {w W W' : World} {X t : Nat} {c d : Array Value} (h : B2t w W X c d t) (k : Gr W W') : B2t w W' X c d t := ⟨h.g.tr k, (k.block _ (lt_of_heap h.b0) id).trans h.b0, (k.block _ (lt_of_heap h.b1) id).trans h.b1⟩
theorem b2t_new (W : World) (c d : Array Value) (t : Nat) : B2t W ((W.alloc (.cells c t)).alloc (.cells d t)) W.heap.size c d t := by
  refine ⟨(gr_alloc W _).alloc _, (Below.heap_alloc _ _ _ (by simp)).trans (World.alloc_heap_new W _), ?_⟩
  have := World.alloc_heap_new (W.alloc (.cells c t)) (.cells d t)
  rw [World.size_alloc] at this
  exact this
theorem alikeT_gen (k1 d1 i1 x1 k2 d2 i2 x2 : Int) (ao bo : Option Addr) (na ca nb cb : Nat) (x y r : Bool) (w : World) (ha : Ans 74 #[.agg #[.int .i64 k1, .int .i64 d1, .int .i64 i1, .int .i64 x1, .slice ao na ca]] x w) (hb : Ans 74 #[.agg #[.int .i64 k2, .int .i64 d2, .int .i64 i2, .int .i64 x2, .slice bo nb cb]] y w) (hc : Ans 75 #[.agg #[.int .i64 k1, .int .i64 d1, .int .i64 i1, .int .i64 x1, .slice ao na ca], .agg #[.int .i64 k2, .int .i64 d2, .int .i64 i2, .int .i64 x2, .slice bo nb cb]] r w) :
    Ans 48 #[.agg #[.int .i64 k1, .int .i64 d1, .int .i64 i1, .int .i64 x1, .slice ao na ca], .agg #[.int .i64 k2, .int .i64 d2, .int .i64 i2, .int .i64 x2, .slice bo nb cb]] (x && y && r) w := by
  intro W g
  have HA := hidM (ha.gr g)
  have HB := hidM (hb.gr g)
  have HC := hidM (hc.gr g)
  clear ha hb hc g
  unfold Ans at HA HB HC
  obtain ⟨W0, hW0⟩ := ex ((W.alloc (.cells #[.int .i64 k1, .int .i64 d1, .int .i64 i1, .int .i64 x1, .slice ao na ca] 24)).alloc (.cells #[.int .i64 k2, .int .i64 d2, .int .i64 i2, .int .i64 x2, .slice bo nb cb] 24))
  have HX : Hid (B2t W W0 W.heap.size #[.int .i64 k1, .int .i64 d1, .int .i64 i1, .int .i64 x1, .slice ao na ca] #[.int .i64 k2, .int .i64 d2, .int .i64 i2, .int .i64 x2, .slice bo nb cb] 24) := by rw [← hW0]; exact b2t_new W _ _ _
  obtain ⟨p0, p1, p2, p3, p4⟩ := cell5 HX.out.b0
  obtain ⟨q0, q1, q2, q3, q4⟩ := cell5 HX.out.b1
  go_enter Tryz.func48, Tryz.ntmps48
  go_wp2_with (go_at_call 74; refine Hid.out ?_)
  unfold Hid
  try rw [hW0]
  refine Calls.mono (HA.out _ HX.out.g) ?_
  rintro e W1 ⟨rfl, hg1⟩
  clear p0 p1 p2 p3 p4 q0 q1 q2 q3 q4 hW0
  replace HX := hidM (HX.out.gr hg1)
  clear hg1 HA
  cases x with
  | false =>
    go_wp2_with fail
    go_ret
    exact ⟨by simp, HX.out.g⟩
  | true =>
    obtain ⟨q0, q1, q2, q3, q4⟩ := cell5 HX.out.b1
    go_wp2_with (go_at_call 74; refine Hid.out ?_)
    unfold Hid
    refine Calls.mono (HB.out _ HX.out.g) ?_
    rintro e W2 ⟨rfl, hg1⟩
    clear q0 q1 q2 q3 q4
    replace HX := hidM (HX.out.gr hg1)
    clear hg1 HB
    cases y with
    | false =>
      go_wp2_with fail
      go_ret
      exact ⟨by simp, HX.out.g⟩
    | true =>
      obtain ⟨p0, p1, p2, p3, p4⟩ := cell5 HX.out.b0
      obtain ⟨q0, q1, q2, q3, q4⟩ := cell5 HX.out.b1
      go_wp2_with (go_at_call 75; refine Hid.out ?_)
      unfold Hid
      refine Calls.mono (HC.out _ HX.out.g) ?_
      rintro e W3 ⟨rfl, hg1⟩
      have HE := hidM (HX.out.g.tr hg1)
      clear p0 p1 p2 p3 p4 q0 q1 q2 q3 q4 hg1 HX
      go_wp2_with fail
      go_ret
      exact ⟨by simp, HE.out⟩
end Go.Proofs.YtknnoiomdngmfaaGreatDoor.Kit
namespace Go.Proofs.YtknnoiomdngmfaaGreatDoor.Kit
open Go.RowKit Go.Shelf Go.Deep
set_option linter.unusedVariables false
attribute [local go_sem] run_store_func
theorem t10 {W V : World} {X : Nat} {k1 d1 i1 x1 k2 d2 i2 x2 : Int} {ao bo : Option Addr} {na ca nb cb : Nat} (h : B2t W V X #[.int .i64 k1, .int .i64 d1, .int .i64 i1, .int .i64 x1, .slice ao na ca] #[.int .i64 k2, .int .i64 d2, .int .i64 i2, .int .i64 x2, .slice bo nb cb] 24) : Hid (B2t W V X #[.int .i64 k1, .int .i64 d1, .int .i64 i1, .int .i64 x1, .slice ao na ca] #[.int .i64 k2, .int .i64 d2, .int .i64 i2, .int .i64 x2, .slice bo nb cb] 24) ∧ V.cell? ⟨X, 0, none⟩ = some (.int .i64 k1) ∧ V.cell? ⟨X, 1, none⟩ = some (.int .i64 d1) ∧ V.cell? ⟨X, 2, none⟩ = some (.int .i64 i1) ∧ V.cell? ⟨X, 3, none⟩ = some (.int .i64 x1) ∧ V.cell? ⟨X, 4, none⟩ = some (.slice ao na ca) ∧ V.cell? ⟨X + 1, 0, none⟩ = some (.int .i64 k2) ∧ V.cell? ⟨X + 1, 1, none⟩ = some (.int .i64 d2) ∧ V.cell? ⟨X + 1, 2, none⟩ = some (.int .i64 i2) ∧ V.cell? ⟨X + 1, 3, none⟩ = some (.int .i64 x2) ∧ V.cell? ⟨X + 1, 4, none⟩ = some (.slice bo nb cb) := by
  obtain ⟨a0, a1, a2, a3, a4⟩ := cell5 h.b0
  obtain ⟨b0, b1, b2, b3, b4⟩ := cell5 h.b1
  exact ⟨h, a0, a1, a2, a3, a4, b0, b1, b2, b3, b4⟩
theorem t10_kept {W V : World} {X : Nat} {k1 d1 i1 x1 k2 d2 i2 x2 : Int} {ao bo : Option Addr} {na ca nb cb : Nat} {V' : World} (h : Hid (B2t W V X #[.int .i64 k1, .int .i64 d1, .int .i64 i1, .int .i64 x1, .slice ao na ca] #[.int .i64 k2, .int .i64 d2, .int .i64 i2, .int .i64 x2, .slice bo nb cb] 24) ∧ V.cell? ⟨X, 0, none⟩ = some (.int .i64 k1) ∧ V.cell? ⟨X, 1, none⟩ = some (.int .i64 d1) ∧ V.cell? ⟨X, 2, none⟩ = some (.int .i64 i1) ∧ V.cell? ⟨X, 3, none⟩ = some (.int .i64 x1) ∧ V.cell? ⟨X, 4, none⟩ = some (.slice ao na ca) ∧ V.cell? ⟨X + 1, 0, none⟩ = some (.int .i64 k2) ∧ V.cell? ⟨X + 1, 1, none⟩ = some (.int .i64 d2) ∧ V.cell? ⟨X + 1, 2, none⟩ = some (.int .i64 i2) ∧ V.cell? ⟨X + 1, 3, none⟩ = some (.int .i64 x2) ∧ V.cell? ⟨X + 1, 4, none⟩ = some (.slice bo nb cb)) (k : Hid (Gr V V')) : Hid (B2t W V' X #[.int .i64 k1, .int .i64 d1, .int .i64 i1, .int .i64 x1, .slice ao na ca] #[.int .i64 k2, .int .i64 d2, .int .i64 i2, .int .i64 x2, .slice bo nb cb] 24) ∧ V'.cell? ⟨X, 0, none⟩ = some (.int .i64 k1) ∧ V'.cell? ⟨X, 1, none⟩ = some (.int .i64 d1) ∧ V'.cell? ⟨X, 2, none⟩ = some (.int .i64 i1) ∧ V'.cell? ⟨X, 3, none⟩ = some (.int .i64 x1) ∧ V'.cell? ⟨X, 4, none⟩ = some (.slice ao na ca) ∧ V'.cell? ⟨X + 1, 0, none⟩ = some (.int .i64 k2) ∧ V'.cell? ⟨X + 1, 1, none⟩ = some (.int .i64 d2) ∧ V'.cell? ⟨X + 1, 2, none⟩ = some (.int .i64 i2) ∧ V'.cell? ⟨X + 1, 3, none⟩ = some (.int .i64 x2) ∧ V'.cell? ⟨X + 1, 4, none⟩ = some (.slice bo nb cb) := t10 (h.1.out.gr k.out)
theorem t10_g {W V : World} {X : Nat} {k1 d1 i1 x1 k2 d2 i2 x2 : Int} {ao bo : Option Addr} {na ca nb cb : Nat} (h : Hid (B2t W V X #[.int .i64 k1, .int .i64 d1, .int .i64 i1, .int .i64 x1, .slice ao na ca] #[.int .i64 k2, .int .i64 d2, .int .i64 i2, .int .i64 x2, .slice bo nb cb] 24) ∧ V.cell? ⟨X, 0, none⟩ = some (.int .i64 k1) ∧ V.cell? ⟨X, 1, none⟩ = some (.int .i64 d1) ∧ V.cell? ⟨X, 2, none⟩ = some (.int .i64 i1) ∧ V.cell? ⟨X, 3, none⟩ = some (.int .i64 x1) ∧ V.cell? ⟨X, 4, none⟩ = some (.slice ao na ca) ∧ V.cell? ⟨X + 1, 0, none⟩ = some (.int .i64 k2) ∧ V.cell? ⟨X + 1, 1, none⟩ = some (.int .i64 d2) ∧ V.cell? ⟨X + 1, 2, none⟩ = some (.int .i64 i2) ∧ V.cell? ⟨X + 1, 3, none⟩ = some (.int .i64 x2) ∧ V.cell? ⟨X + 1, 4, none⟩ = some (.slice bo nb cb)) : Gr W V := h.1.out.g
theorem alikeTR_gen (n1 n2 : Bool) (k1 d1 i1 x1 k2 d2 i2 x2 : Int) (ao bo : Option Addr) (na ca nb cb : Nat) (x y r : Bool) (w : World) (ha : Ans 35 #[.agg #[.int .i64 k1, .int .i64 d1, .int .i64 i1, .int .i64 x1, .slice ao na ca]] x w) (hb : Ans 35 #[.agg #[.int .i64 k2, .int .i64 d2, .int .i64 i2, .int .i64 x2, .slice bo nb cb]] y w)
    (h1 : ∀ W, Gr w W → Calls Tryz.prog 37 #[.agg #[.int .i64 k1, .int .i64 d1, .int .i64 i1, .int .i64 x1, .slice ao na ca]] W fun e w' => e = .returned (.agg #[.string ⟨#[97]⟩, .bool n1, .int .i64 k1, .int .i64 d1, .int .i64 i1, .int .i64 x1, .slice ao na ca]) ∧ Gr W w') (h2 : ∀ W, Gr w W → Calls Tryz.prog 37 #[.agg #[.int .i64 k2, .int .i64 d2, .int .i64 i2, .int .i64 x2, .slice bo nb cb]] W fun e w' => e = .returned (.agg #[.string ⟨#[97]⟩, .bool n2, .int .i64 k2, .int .i64 d2, .int .i64 i2, .int .i64 x2, .slice bo nb cb]) ∧ Gr W w')
    (hc : ∀ W r1 r2, Gr w W → W.heap[r1]? = some (.cells #[.string ⟨#[97]⟩, .bool n1, .int .i64 k1, .int .i64 d1, .int .i64 i1, .int .i64 x1, .slice ao na ca] 26) → W.heap[r2]? = some (.cells #[.string ⟨#[97]⟩, .bool n2, .int .i64 k2, .int .i64 d2, .int .i64 i2, .int .i64 x2, .slice bo nb cb] 26) → Calls Tryz.prog 36 #[.slice (some ⟨r1, 0, none⟩) 1 1, .slice (some ⟨r2, 0, none⟩) 1 1, .bool false] W fun e w' => e = .returned (.bool r) ∧ Gr W w') :
    Ans 19 #[.agg #[.int .i64 k1, .int .i64 d1, .int .i64 i1, .int .i64 x1, .slice ao na ca], .agg #[.int .i64 k2, .int .i64 d2, .int .i64 i2, .int .i64 x2, .slice bo nb cb]] (x && y && r) w := by
  intro W g
  have HA := hidM (ha.gr g)
  have HB := hidM (hb.gr g)
  have HH1 : Hid (∀ W', Gr W W' → Calls Tryz.prog 37 #[.agg #[.int .i64 k1, .int .i64 d1, .int .i64 i1, .int .i64 x1, .slice ao na ca]] W' fun e w' => e = .returned (.agg #[.string ⟨#[97]⟩, .bool n1, .int .i64 k1, .int .i64 d1, .int .i64 i1, .int .i64 x1, .slice ao na ca]) ∧ Gr W' w') := fun W' g' => h1 W' (g.tr g')
  have HH2 : Hid (∀ W', Gr W W' → Calls Tryz.prog 37 #[.agg #[.int .i64 k2, .int .i64 d2, .int .i64 i2, .int .i64 x2, .slice bo nb cb]] W' fun e w' => e = .returned (.agg #[.string ⟨#[97]⟩, .bool n2, .int .i64 k2, .int .i64 d2, .int .i64 i2, .int .i64 x2, .slice bo nb cb]) ∧ Gr W' w') := fun W' g' => h2 W' (g.tr g')
  have HC : Hid (∀ W' r1 r2, Gr W W' → W'.heap[r1]? = some (.cells #[.string ⟨#[97]⟩, .bool n1, .int .i64 k1, .int .i64 d1, .int .i64 i1, .int .i64 x1, .slice ao na ca] 26) → W'.heap[r2]? = some (.cells #[.string ⟨#[97]⟩, .bool n2, .int .i64 k2, .int .i64 d2, .int .i64 i2, .int .i64 x2, .slice bo nb cb] 26) → Calls Tryz.prog 36 #[.slice (some ⟨r1, 0, none⟩) 1 1, .slice (some ⟨r2, 0, none⟩) 1 1, .bool false] W' fun e w' => e = .returned (.bool r) ∧ Gr W' w') := fun W' r1 r2 g' => hc W' r1 r2 (g.tr g')
  clear ha hb hc g h1 h2
  unfold Ans at HA HB
  obtain ⟨W0, hW0⟩ := ex ((W.alloc (.cells #[.int .i64 k1, .int .i64 d1, .int .i64 i1, .int .i64 x1, .slice ao na ca] 24)).alloc (.cells #[.int .i64 k2, .int .i64 d2, .int .i64 i2, .int .i64 x2, .slice bo nb cb] 24))
  obtain ⟨X, hX⟩ : ∃ X, X = W.heap.size := ⟨_, rfl⟩
  have HX : Hid (B2t W W0 X #[.int .i64 k1, .int .i64 d1, .int .i64 i1, .int .i64 x1, .slice ao na ca] #[.int .i64 k2, .int .i64 d2, .int .i64 i2, .int .i64 x2, .slice bo nb cb] 24) := by rw [← hW0, hX]; exact b2t_new W _ _ _
  go_enter Tryz.func19, Tryz.ntmps19
  go_wp2
  try rw [hW0]
  try rw [← hX]
  clear hW0 hX
  have HIN : Hid (Hid (B2t W W0.drew X #[.int .i64 k1, .int .i64 d1, .int .i64 i1, .int .i64 x1, .slice ao na ca] #[.int .i64 k2, .int .i64 d2, .int .i64 i2, .int .i64 x2, .slice bo nb cb] 24) ∧ W0.drew.cell? ⟨X, 0, none⟩ = some (.int .i64 k1) ∧ W0.drew.cell? ⟨X, 1, none⟩ = some (.int .i64 d1) ∧ W0.drew.cell? ⟨X, 2, none⟩ = some (.int .i64 i1) ∧ W0.drew.cell? ⟨X, 3, none⟩ = some (.int .i64 x1) ∧ W0.drew.cell? ⟨X, 4, none⟩ = some (.slice ao na ca) ∧ W0.drew.cell? ⟨X + 1, 0, none⟩ = some (.int .i64 k2) ∧ W0.drew.cell? ⟨X + 1, 1, none⟩ = some (.int .i64 d2) ∧ W0.drew.cell? ⟨X + 1, 2, none⟩ = some (.int .i64 i2) ∧ W0.drew.cell? ⟨X + 1, 3, none⟩ = some (.int .i64 x2) ∧ W0.drew.cell? ⟨X + 1, 4, none⟩ = some (.slice bo nb cb)) := t10 (HX.out.gr gr_drew)
  cases x with
  | false =>
    refine wp_region_held_drew (S := fun w' => Hid (B2t W w' X #[.int .i64 k1, .int .i64 d1, .int .i64 i1, .int .i64 x1, .slice ao na ca] #[.int .i64 k2, .int .i64 d2, .int .i64 i2, .int .i64 x2, .slice bo nb cb] 24) ∧ w'.cell? ⟨X, 0, none⟩ = some (.int .i64 k1) ∧ w'.cell? ⟨X, 1, none⟩ = some (.int .i64 d1) ∧ w'.cell? ⟨X, 2, none⟩ = some (.int .i64 i1) ∧ w'.cell? ⟨X, 3, none⟩ = some (.int .i64 x1) ∧ w'.cell? ⟨X, 4, none⟩ = some (.slice ao na ca) ∧ w'.cell? ⟨X + 1, 0, none⟩ = some (.int .i64 k2) ∧ w'.cell? ⟨X + 1, 1, none⟩ = some (.int .i64 d2) ∧ w'.cell? ⟨X + 1, 2, none⟩ = some (.int .i64 i2) ∧ w'.cell? ⟨X + 1, 3, none⟩ = some (.int .i64 x2) ∧ w'.cell? ⟨X + 1, 4, none⟩ = some (.slice bo nb cb)) (by kernel_rfl) HIN.out (fun hHeld => ?_)
    refine tk 0 ?_
    refine wpAnyH_ready (rs := [1]) (by kernel_rfl) (by simp) ?_
    refine AllReadyH.cons (o := { dst := some 6, op := Op.call { callee := Callee.value (Operand.func 35), args := #[Operand.tmp 5], argTypes := #[24] }, type := 4, pos := "ref.go:271", after := #[{ on := 0, ground := Ground.data }], guard := none }) rfl (fun K hK => ?_) AllReadyH.nil
    go_simp
    go_at_call 35
    refine Calls.mono (HA.out _ (t10_g hHeld)) ?_
    rintro e' v1 ⟨rfl, hk1⟩
    replace hk1 := hidM hk1
    go_wp2_with fail
    refine hK.out _ _ (t10_kept hHeld hk1) (fun hHeld => ?_)
    clear hK K
    try simp only [Act.put, lA, lB, lC]
    refine tk 2 ?_
    refine sk 3 ?_
    refine sk 4 ?_
    refine tk 5 ?_
    refine tk 6 ?_
    refine sk 7 ?_
    refine sk 8 ?_
    refine sk 9 ?_
    refine sk 10 ?_
    refine sk 11 ?_
    refine sk 12 ?_
    refine sk 13 ?_
    refine tk 14 ?_
    refine tk 15 ?_
    refine wpAnyH_done (by kernel_rfl) ?_ _
    have HE := hidM hHeld.1.out.g
    go_wp2
    go_ret
    exact ⟨by simp, HE.out⟩
  | true =>
    cases y with
    | false =>
      refine wp_region_held_drew (S := fun w' => Hid (B2t W w' X #[.int .i64 k1, .int .i64 d1, .int .i64 i1, .int .i64 x1, .slice ao na ca] #[.int .i64 k2, .int .i64 d2, .int .i64 i2, .int .i64 x2, .slice bo nb cb] 24) ∧ w'.cell? ⟨X, 0, none⟩ = some (.int .i64 k1) ∧ w'.cell? ⟨X, 1, none⟩ = some (.int .i64 d1) ∧ w'.cell? ⟨X, 2, none⟩ = some (.int .i64 i1) ∧ w'.cell? ⟨X, 3, none⟩ = some (.int .i64 x1) ∧ w'.cell? ⟨X, 4, none⟩ = some (.slice ao na ca) ∧ w'.cell? ⟨X + 1, 0, none⟩ = some (.int .i64 k2) ∧ w'.cell? ⟨X + 1, 1, none⟩ = some (.int .i64 d2) ∧ w'.cell? ⟨X + 1, 2, none⟩ = some (.int .i64 i2) ∧ w'.cell? ⟨X + 1, 3, none⟩ = some (.int .i64 x2) ∧ w'.cell? ⟨X + 1, 4, none⟩ = some (.slice bo nb cb)) (by kernel_rfl) HIN.out (fun hHeld => ?_)
      refine tk 0 ?_
      refine wpAnyH_ready (rs := [1]) (by kernel_rfl) (by simp) ?_
      refine AllReadyH.cons (o := { dst := some 6, op := Op.call { callee := Callee.value (Operand.func 35), args := #[Operand.tmp 5], argTypes := #[24] }, type := 4, pos := "ref.go:271", after := #[{ on := 0, ground := Ground.data }], guard := none }) rfl (fun K hK => ?_) AllReadyH.nil
      go_simp
      go_at_call 35
      refine Calls.mono (HA.out _ (t10_g hHeld)) ?_
      rintro e' v1 ⟨rfl, hk1⟩
      replace hk1 := hidM hk1
      go_wp2_with fail
      refine hK.out _ _ (t10_kept hHeld hk1) (fun hHeld => ?_)
      clear hK K
      try simp only [Act.put, lA, lB, lC]
      refine tk 2 ?_
      refine tk 3 ?_
      refine wpAnyH_ready (rs := [4]) (by kernel_rfl) (by simp) ?_
      refine AllReadyH.cons (o := { dst := some 9, op := Op.call { callee := Callee.value (Operand.func 35), args := #[Operand.tmp 8], argTypes := #[24] }, type := 4, pos := "ref.go:271", after := #[{ on := 3, ground := Ground.data }, { on := 2, ground := Ground.chain }, { on := 2, ground := Ground.guard }], guard := some (2, true) }) rfl (fun K hK => ?_) AllReadyH.nil
      go_simp
      go_at_call 35
      refine Calls.mono (HB.out _ (t10_g hHeld)) ?_
      rintro e' v2 ⟨rfl, hk2⟩
      replace hk2 := hidM hk2
      go_wp2_with fail
      refine hK.out _ _ (t10_kept hHeld hk2) (fun hHeld => ?_)
      clear hK K
      try simp only [Act.put, lA, lB, lC]
      refine tk 5 ?_
      refine tk 6 ?_
      refine sk 7 ?_
      refine sk 8 ?_
      refine sk 9 ?_
      refine sk 10 ?_
      refine sk 11 ?_
      refine sk 12 ?_
      refine sk 13 ?_
      refine tk 14 ?_
      refine tk 15 ?_
      refine wpAnyH_done (by kernel_rfl) ?_ _
      have HE := hidM hHeld.1.out.g
      go_wp2
      go_ret
      exact ⟨by simp, HE.out⟩
    | true =>
      go_region_held3 (fun w' => Hid (B2t W w' X #[.int .i64 k1, .int .i64 d1, .int .i64 i1, .int .i64 x1, .slice ao na ca] #[.int .i64 k2, .int .i64 d2, .int .i64 i2, .int .i64 x2, .slice bo nb cb] 24) ∧ w'.cell? ⟨X, 0, none⟩ = some (.int .i64 k1) ∧ w'.cell? ⟨X, 1, none⟩ = some (.int .i64 d1) ∧ w'.cell? ⟨X, 2, none⟩ = some (.int .i64 i1) ∧ w'.cell? ⟨X, 3, none⟩ = some (.int .i64 x1) ∧ w'.cell? ⟨X, 4, none⟩ = some (.slice ao na ca) ∧ w'.cell? ⟨X + 1, 0, none⟩ = some (.int .i64 k2) ∧ w'.cell? ⟨X + 1, 1, none⟩ = some (.int .i64 d2) ∧ w'.cell? ⟨X + 1, 2, none⟩ = some (.int .i64 i2) ∧ w'.cell? ⟨X + 1, 3, none⟩ = some (.int .i64 x2) ∧ w'.cell? ⟨X + 1, 4, none⟩ = some (.slice bo nb cb)) (first | with_reducible exact HIN.out | with_reducible assumption | with_reducible exact t10_kept (by assumption) hk5 | with_reducible exact t10_kept (by assumption) hk4 | with_reducible exact t10_kept (by assumption) hk3 | with_reducible exact t10_kept (by assumption) hk2 | with_reducible exact t10_kept (by assumption) hk1 | exact t10_kept (by assumption) (hidM (gr_alloc _ _)))
        (first
          | (go_at_call 35; (with_reducible show Calls _ _ #[.agg #[.int .i64 k1, .int .i64 d1, .int .i64 i1, .int .i64 x1, .slice ao na ca]] _ _); refine Calls.mono (HA.out _ (t10_g (by assumption))) ?_; rintro e v1 ⟨rfl, hk1⟩; replace hk1 := hidM hk1)
          | (go_at_call 35; (with_reducible show Calls _ _ #[.agg #[.int .i64 k2, .int .i64 d2, .int .i64 i2, .int .i64 x2, .slice bo nb cb]] _ _); refine Calls.mono (HB.out _ (t10_g (by assumption))) ?_; rintro e v2 ⟨rfl, hk2⟩; replace hk2 := hidM hk2)
          | (go_at_call 37; (with_reducible show Calls _ _ #[.agg #[.int .i64 k1, .int .i64 d1, .int .i64 i1, .int .i64 x1, .slice ao na ca]] _ _); refine Calls.mono (HH1.out _ (t10_g (by assumption))) ?_; rintro e v3 ⟨rfl, hk3⟩; replace hk3 := hidM hk3)
          | (go_at_call 37; (with_reducible show Calls _ _ #[.agg #[.int .i64 k2, .int .i64 d2, .int .i64 i2, .int .i64 x2, .slice bo nb cb]] _ _); refine Calls.mono (HH2.out _ (t10_g (by assumption))) ?_; rintro e v4 ⟨rfl, hk4⟩; replace hk4 := hidM hk4)
          | (go_at_call 36; refine Calls.mono (HC.out _ _ _ (t10_g (by assumption)) (by first | exact World.alloc_heap_new _ _ | exact (b2t_new _ _ _ 26).b0 | exact (b2t_new _ _ _ 26).b1 | exact (Below.heap_alloc _ _ _ (by have := hk4.out.size; simp at this ⊢; omega)).trans ((hk4.out.block _ (by simp) id).trans (World.alloc_heap_new _ _)) | exact (Below.heap_alloc _ _ _ (by have := hk3.out.size; simp at this ⊢; omega)).trans ((hk3.out.block _ (by simp) id).trans (World.alloc_heap_new _ _))) (by first | exact World.alloc_heap_new _ _ | exact (b2t_new _ _ _ 26).b0 | exact (b2t_new _ _ _ 26).b1 | exact (Below.heap_alloc _ _ _ (by have := hk4.out.size; simp at this ⊢; omega)).trans ((hk4.out.block _ (by simp) id).trans (World.alloc_heap_new _ _)) | exact (Below.heap_alloc _ _ _ (by have := hk3.out.size; simp at this ⊢; omega)).trans ((hk3.out.block _ (by simp) id).trans (World.alloc_heap_new _ _)))) ?_; rintro e v5 ⟨rfl, hk5⟩; replace hk5 := hidM hk5))
      all_goals
        rename_i hHeld
        have HE := hidM hHeld.1.out.g
        clear hHeld HIN
        go_wp2
        go_ret
        exact ⟨by simp, HE.out⟩
end Go.Proofs.YtknnoiomdngmfaaGreatDoor.Kit
namespace Go.Proofs.YtknnoiomdngmfaaGreatDoor.Kit
open Go.RowKit Go.Shelf Go.Deep
set_option linter.unusedVariables false
attribute [local go_sem] run_store_func
end Go.Proofs.YtknnoiomdngmfaaGreatDoor.Kit
