import Derived.Test.YtffmppnlddphaaaDoorMF
import Derived.Test.YtffmppnlddphaaaDoorMC
import Derived.Test.YtffmppnlddphaaaDoorND
import Derived.Deep.RegionHeld3
namespace Go.Proofs.YtffmppnlddphaaaDoor.Kit
open Go.RowKit Go.Shelf Go.Deep
set_option linter.unusedVariables false
attribute [local go_sem] run_store_func

/-! ### which fields and types may be: the program's and the document's -/
/-- a field in memory -/
structure Fld (S : Nat → Prop) (w : World) (d : Nat) (f : FT) (ao : Option Addr) (ca : Nat) : Prop where
  row : RowAt S w d ao f.kids
  le : f.kids.length ≤ ca
theorem Fld.gr {S : Nat → Prop} {w W : World} {d : Nat} {f : FT} {ao : Option Addr} {ca : Nat} (h : Fld S w d f ao ca) (hS : ∀ b, S b → b < w.heap.size) (g : Gr w W) : Fld S W d f ao ca := ⟨h.row.kept fun b hb => g.block b (hS b hb) id, h.le⟩
set_option maxRecDepth 100000 in
set_option maxHeartbeats 2000000 in
theorem fieldMayBe_gen {S : Nat → Prop} {d : Nat} {f : FT} {ao : Option Addr} {ca : Nat} {w : World} {er tt : Int} {p : List Nat} (hT : Tab w) (h : Fld S w d f ao ca) (hd : d + 1 ≤ big) (hS : ∀ b, S b → b < w.heap.size) (hF : FaultIs (0, 0) (nodes (d + 1) [f] [] false) er p tt) :
    Ans 49 #[.agg #[.string f.name, .bool f.nul, .int .i64 f.kind, .int .i64 f.width, .int .i64 f.id, .int .i64 f.index, .slice ao f.kids.length ca]] (er == 0) w := by
  intro W g
  have HM : Hid (∀ (W1 : World) (b : Nat), Gr W W1 → W.heap.size ≤ b → W1.heap[b]? = some (.cells #[.string f.name, .bool f.nul, .int .i64 f.kind, .int .i64 f.width, .int .i64 f.id, .int .i64 f.index, .slice ao f.kids.length ca] 37) → Calls Tryd.prog 60 #[.agg #[.slice (some ⟨b, 0, none⟩) 1 1, .slice none 0 0]] W1 fun e w' => e = .returned (.bool (er == 0)) ∧ Gr W1 w') := by
    intro W1 b g1 hb hx
    have g' : Gr w W1 := g.trans g1 (fun _ _ h => h)
    have hrow := row_alone hx (h.row.kept fun b h => g'.block b (hS b h) id) h.le
    have hs : Sch (fun c => S c ∨ c = b) W1 (d + 1) (some ⟨b, 0, none⟩) none 1 0 [f] [] := ⟨hrow, by simp, notes_none W1⟩
    obtain ⟨er', p', tt', t⟩ := hs.tells (hT.gr g') hd (fun c h => h.elim (fun h => Nat.lt_of_lt_of_le (hS c h) g'.size) fun h => by rw [h]; exact lt_of_heap hx)
    obtain ⟨rfl, rfl, rfl⟩ := hF.one t.is
    exact maybe_gen t.t11 W1 (Keeps.refl _ _)
  have hal := alone_any f.name f.nul f.kind f.width f.id f.index ao f.kids.length ca (W.alloc (.cells #[.string f.name, .bool f.nul, .int .i64 f.kind, .int .i64 f.width, .int .i64 f.id, .int .i64 f.index, .slice ao f.kids.length ca] 37))
  have HA := hidM hal
  clear hal h g hF
  generalize f.name = f0 at *
  generalize f.nul = f1 at *
  generalize f.kind = f2 at *
  generalize f.width = f3 at *
  generalize f.id = f4 at *
  generalize f.index = f5 at *
  generalize f.kids.length = f6 at *
  go_enter Tryd.func49, Tryd.ntmps49
  go_wp2_with (go_at_call 48; refine Hid.out ?_)
  unfold Hid
  refine Calls.mono HA.out ?_
  rintro e W1 ⟨b, rfl, hg1, hb, hx⟩
  have HC := hidM (HM.out W1 b ((gr_alloc W _).trans hg1 (fun _ _ h => h)) (by simp at hb; omega) hx)
  have HG := hidM ((gr_alloc W _).trans hg1 (fun _ _ h => h))
  clear hg1 hb hx HM HA
  go_wp2_with (go_at_call 60; refine Hid.out ?_)
  unfold Hid
  refine Calls.mono HC.out ?_
  rintro e W2 ⟨rfl, hg2⟩
  have HE := hidM (HG.out.trans hg2 (fun _ _ h => h))
  clear hg2
  go_wp2_with fail
  go_ret
  exact ⟨rfl, HE.out⟩
set_option maxRecDepth 100000 in
set_option maxHeartbeats 2000000 in
theorem mayBeR_gen {S : Nat → Prop} {d : Nat} {f : FT} {ao : Option Addr} {ca : Nat} {w : World} {er tt : Int} {p : List Nat} (h : Fld S w d f ao ca) (hS : ∀ b, S b → b < w.heap.size) (hF : FaultIs (0, 0) (nodes (d + 1) [f] [] false) er p tt) :
    Ans 51 #[.agg #[.string f.name, .bool f.nul, .int .i64 f.kind, .int .i64 f.width, .int .i64 f.id, .int .i64 f.index, .slice ao f.kids.length ca]] (er == 0) w := by
  intro W g
  have HC : Hid (∀ W1, Gr W W1 → Calls Tryd.prog 14 #[.agg #[.string f.name, .bool f.nul, .int .i64 f.kind, .int .i64 f.width, .int .i64 f.id, .int .i64 f.index, .slice ao f.kids.length ca]] W1 fun e w' => ∃ vo vn vc, e = .returned (.agg #[.int .i64 er, .slice vo vn vc, .int .i64 tt]) ∧ Gr W1 w') := fun W1 g1 => by
    have g' : Gr w W1 := g.trans g1 (fun _ _ h => h)
    refine Calls.mono (checkFieldR_any S d f ao ca W1 (h.row.kept fun b hb => g'.block b (hS b hb) id) h.le (fun b hb => by have := hS b hb; have := g'.size; omega)) ?_
    rintro e w' ⟨er', p', vo, vc, tt', rfl, hg, h1, h2⟩
    obtain ⟨rfl, rfl, rfl⟩ := hF.cut.one h1
    exact ⟨vo, _, vc, rfl, hg⟩
  clear h g hF
  have hfl : ∀ vo vn vc w, (Instr.field 32 (.agg #[.int .i64 er, .slice vo vn vc, .int .i64 tt]) 0).run Tryd.prog w = .ok (.int .i64 er) w := fun vo vn vc w => by kernel_rfl
  generalize f.name = f0 at *
  generalize f.nul = f1 at *
  generalize f.kind = f2 at *
  generalize f.width = f3 at *
  generalize f.id = f4 at *
  generalize f.index = f5 at *
  generalize f.kids.length = f6 at *
  go_enter Tryd.func51, Tryd.ntmps51
  go_wp2_with (go_at_call 14; refine Hid.out ?_)
  unfold Hid
  refine Calls.mono (HC.out _ (gr_alloc W _)) ?_
  rintro e W1 ⟨vo, vn, vc, rfl, hg1⟩
  have HE := hidM ((gr_alloc W _).trans hg1 (fun _ _ h => h))
  clear hg1
  go_wp2_with fail
  go_ret
  exact ⟨rfl, HE.out⟩

/-- Nullable, as the program asks of a type -/
def nulA (f : FT) : Bool := if f.kind = 20 ∧ f.kids ≠ [] then kid0 f else decide (f.kind = 1)
/-- and the document -/
def nulR (f : FT) : Bool := decide (f.kind = 1) || (decide (f.kind = 20) && decide (f.kids.length = 1) && kid0 f)
def holdA (f : FT) : FT := ⟨⟨#[97]⟩, nulA f, f.kind, f.width, f.id, f.index, f.kids⟩
def holdR (f : FT) : FT := ⟨⟨#[97]⟩, nulR f, f.kind, f.width, f.id, f.index, f.kids⟩
theorem kid0_cell {S : Nat → Prop} {W : World} {D : Nat} {fo : Option Addr} {f : FT} (h : RowAt S W D fo f.kids) (hne : f.kids ≠ []) : ∃ b o, fo = some ⟨b, o, none⟩ ∧ W.cell? ⟨b, o + 1, none⟩ = some (.bool (kid0 f)) := kids_cell h hne
set_option maxRecDepth 100000 in
set_option maxHeartbeats 2000000 in
theorem asField_any (S : Nat → Prop) (d : Nat) (f : FT) (ao : Option Addr) (ca : Nat) (w : World) (h : Fld S w d f ao ca) (hS : ∀ b, S b → b < w.heap.size) :
    Calls Tryd.prog 79 #[.agg #[.int .i64 f.kind, .int .i64 f.width, .int .i64 f.id, .int .i64 f.index, .slice ao f.kids.length ca]] w fun e w' => e = .returned (.agg #[.string ⟨#[97]⟩, .bool (nulA f), .int .i64 f.kind, .int .i64 f.width, .int .i64 f.id, .int .i64 f.index, .slice ao f.kids.length ca]) ∧ Gr w w' := by
  have hl : f.kids.length ≤ 1000000000000 := h.row.len
  have hle := h.le
  have HK : Hid (f.kids ≠ [] → ∃ b o, ao = some ⟨b, o, none⟩ ∧ w.cell? ⟨b, o + 1, none⟩ = some (.bool (kid0 f))) := fun hne => kid0_cell h.row hne
  obtain ⟨z, hz⟩ : ∃ z, z = nulA f := ⟨_, rfl⟩
  rw [← hz]
  unfold nulA at hz
  obtain ⟨n, hn⟩ : ∃ n, n = f.kids.length := ⟨_, rfl⟩
  rw [← hn] at hl hle ⊢
  have hne : f.kids ≠ [] ↔ 0 < n := by rw [hn]; exact List.length_pos_iff.symm
  have HZ := hidM hz
  have HNE := hidM hne
  clear h hz hn hne
  generalize f.kind = k at *
  generalize f.width = wd at *
  generalize f.id = i at *
  generalize f.index = x at *
  have fin : ∀ (w3 : World), w3 = ((((((((w.alloc (.cells #[.int .i64 k, .int .i64 wd, .int .i64 i, .int .i64 x, .slice ao n ca] 35)).alloc (.cells #[.string ⟨#[97]⟩, .bool z, .int .i64 k, .int .i64 wd, .int .i64 i, .int .i64 x, .slice ao n ca] 37))))))) ) → Gr w w3 := fun w3 e => by rw [e]; exact (gr_alloc w _).alloc _
  have HFin := hidM fin
  clear fin
  have hb2 : ∀ (c : Array Value), ((w.alloc (.cells #[.int .i64 k, .int .i64 wd, .int .i64 i, .int .i64 x, .slice ao n ca] 35)).alloc (.cells c 37)).heap[w.heap.size + 1]? = some (.cells c 37) := fun c => by
    have := World.alloc_heap_new (w.alloc (.cells #[.int .i64 k, .int .i64 wd, .int .i64 i, .int .i64 x, .slice ao n ca] 35)) (.cells c 37)
    rw [World.size_alloc] at this
    exact this
  have HB := hidM hb2
  clear hb2
  by_cases h20 : k = 20
  · subst h20
    by_cases hn0 : 0 < n
    · obtain ⟨b, o, rfl, hc⟩ := HK.out (HNE.out.2 hn0)
      have hzz : z = kid0 f := by rw [HZ.out, if_pos ⟨rfl, HNE.out.2 hn0⟩]
      rw [← hzz] at hc
      have hc' := fun (o1 : Obj) => (gr_alloc w o1).cell' hc id
      have hc2 := fun (o1 o2 : Obj) => ((gr_alloc w o1).alloc o2).cell' hc id
      have hnI : (0 : Int) < (n : Int) := by omega
      clear hc hzz
      go_enter Tryd.func79, Tryd.ntmps79
      go_wp2
      obtain ⟨v0, v1, v2, v3, v4, v5, v6⟩ := cell7 (HB.out #[.string ⟨#[97]⟩, .bool z, .int .i64 20, .int .i64 wd, .int .i64 i, .int .i64 x, .slice (some ⟨b, o, none⟩) n ca])
      simp only [Nat.zero_add] at v1 v2 v3 v4 v5 v6
      refine bodyPost_ret (v := .agg #[.string ⟨#[97]⟩, .bool z, .int .i64 20, .int .i64 wd, .int .i64 i, .int .i64 x, .slice (some ⟨b, o, none⟩) n ca]) ?_ rfl ⟨rfl, HFin.out _ rfl⟩
      simp [results, Tryd.f79, go_sem, v0, v1, v2, v3, v4, v5, v6]
    · have hzz : z = false := by rw [HZ.out, if_neg (fun h => hn0 (HNE.out.1 h.2))]; rfl
      subst hzz
      have hn00 : n = 0 := by omega
      subst hn00
      go_enter Tryd.func79, Tryd.ntmps79
      go_wp2
      obtain ⟨v0, v1, v2, v3, v4, v5, v6⟩ := cell7 (HB.out #[.string ⟨#[97]⟩, .bool false, .int .i64 20, .int .i64 wd, .int .i64 i, .int .i64 x, .slice ao 0 ca])
      simp only [Nat.zero_add] at v1 v2 v3 v4 v5 v6
      refine bodyPost_ret (v := .agg #[.string ⟨#[97]⟩, .bool false, .int .i64 20, .int .i64 wd, .int .i64 i, .int .i64 x, .slice ao 0 ca]) ?_ rfl ⟨rfl, HFin.out _ rfl⟩
      simp [results, Tryd.f79, go_sem, v0, v1, v2, v3, v4, v5, v6]
  · have hzz : z = (k == 1) := by
      rw [HZ.out, if_neg (fun h => h20 h.1)]
      by_cases h1 : k = 1 <;> simp [h1]
    have h20b := beqZ h20
    have HZZ := hidM hzz.symm
    clear hzz
    go_enter Tryd.func79, Tryd.ntmps79
    go_wp2
    rw [HZZ.out]
    obtain ⟨v0, v1, v2, v3, v4, v5, v6⟩ := cell7 (HB.out #[.string ⟨#[97]⟩, .bool z, .int .i64 k, .int .i64 wd, .int .i64 i, .int .i64 x, .slice ao n ca])
    simp only [Nat.zero_add] at v1 v2 v3 v4 v5 v6
    refine bodyPost_ret (v := .agg #[.string ⟨#[97]⟩, .bool z, .int .i64 k, .int .i64 wd, .int .i64 i, .int .i64 x, .slice ao n ca]) ?_ rfl ⟨rfl, HFin.out _ rfl⟩
    simp [results, Tryd.f79, go_sem, v0, v1, v2, v3, v4, v5, v6]
end Go.Proofs.YtffmppnlddphaaaDoor.Kit
namespace Go.Proofs.YtffmppnlddphaaaDoor.Kit
open Go.RowKit Go.Shelf Go.Deep
set_option linter.unusedVariables false
attribute [local go_sem] run_store_func

set_option maxRecDepth 100000 in
set_option maxHeartbeats 4000000 in
theorem holder_any (S : Nat → Prop) (d : Nat) (f : FT) (ao : Option Addr) (ca : Nat) (w : World) (h : Fld S w d f ao ca) (hS : ∀ b, S b → b < w.heap.size) :
    Calls Tryd.prog 55 #[.agg #[.int .i64 f.kind, .int .i64 f.width, .int .i64 f.id, .int .i64 f.index, .slice ao f.kids.length ca]] w fun e w' => e = .returned (.agg #[.string ⟨#[97]⟩, .bool (nulR f), .int .i64 f.kind, .int .i64 f.width, .int .i64 f.id, .int .i64 f.index, .slice ao f.kids.length ca]) ∧ Gr w w' := by
  have hl : f.kids.length ≤ 1000000000000 := h.row.len
  have hle := h.le
  have HK : Hid (f.kids ≠ [] → ∃ b o, ao = some ⟨b, o, none⟩ ∧ w.cell? ⟨b, o + 1, none⟩ = some (.bool (kid0 f))) := fun hne => kid0_cell h.row hne
  obtain ⟨z, hz⟩ : ∃ z, z = nulR f := ⟨_, rfl⟩
  rw [← hz]
  unfold nulR at hz
  obtain ⟨n, hn⟩ : ∃ n, n = f.kids.length := ⟨_, rfl⟩
  rw [← hn] at hl hle hz ⊢
  have hne : 0 < n → f.kids ≠ [] := by rw [hn]; exact List.length_pos_iff.1
  have HZ := hidM hz
  have HNE := hidM hne
  clear h hz hn hne
  generalize f.kind = k at *
  generalize f.width = wd at *
  generalize f.id = i at *
  generalize f.index = x at *
  obtain ⟨W3, hW3⟩ : ∃ W3, ((w.alloc (.cells #[.int .i64 k, .int .i64 wd, .int .i64 i, .int .i64 x, .slice ao n ca] 35)).alloc (.cells #[.string ⟨#[]⟩, .bool false, .int .i64 0, .int .i64 0, .int .i64 0, .int .i64 0, .slice none 0 0] 37)).alloc (.cells #[.string ⟨#[97]⟩, .bool false, .int .i64 k, .int .i64 wd, .int .i64 i, .int .i64 x, .slice ao n ca] 37) = W3 := ⟨_, rfl⟩
  have hg3 : Gr w W3 := by rw [← hW3]; exact ((gr_alloc w _).alloc _).alloc _
  have x1 : W3.heap[w.heap.size]? = some (.cells #[.int .i64 k, .int .i64 wd, .int .i64 i, .int .i64 x, .slice ao n ca] 35) := by
    rw [← hW3]; exact (Below.heap_alloc _ _ _ (by simp; omega)).trans ((Below.heap_alloc _ _ _ (by simp)).trans (World.alloc_heap_new w _))
  have x2 : W3.heap[w.heap.size + 1]? = some (.cells #[.string ⟨#[]⟩, .bool false, .int .i64 0, .int .i64 0, .int .i64 0, .int .i64 0, .slice none 0 0] 37) := by
    rw [← hW3]
    have := World.alloc_heap_new (w.alloc (.cells #[.int .i64 k, .int .i64 wd, .int .i64 i, .int .i64 x, .slice ao n ca] 35)) (.cells #[.string ⟨#[]⟩, .bool false, .int .i64 0, .int .i64 0, .int .i64 0, .int .i64 0, .slice none 0 0] 37)
    rw [World.size_alloc] at this
    exact (Below.heap_alloc _ _ _ (by simp)).trans this
  have x3 : W3.heap[w.heap.size + 1 + 1]? = some (.cells #[.string ⟨#[97]⟩, .bool false, .int .i64 k, .int .i64 wd, .int .i64 i, .int .i64 x, .slice ao n ca] 37) := by
    rw [← hW3]
    have := World.alloc_heap_new ((w.alloc (.cells #[.int .i64 k, .int .i64 wd, .int .i64 i, .int .i64 x, .slice ao n ca] 35)).alloc (.cells #[.string ⟨#[]⟩, .bool false, .int .i64 0, .int .i64 0, .int .i64 0, .int .i64 0, .slice none 0 0] 37)) (.cells #[.string ⟨#[97]⟩, .bool false, .int .i64 k, .int .i64 wd, .int .i64 i, .int .i64 x, .slice ao n ca] 37)
    rw [World.size_alloc, World.size_alloc] at this
    exact this
  have a0 : W3.cell? ⟨w.heap.size, 0, none⟩ = some (.int .i64 k) := by simp [World.cell?, x1]
  have a4 : W3.cell? ⟨w.heap.size, 4, none⟩ = some (.slice ao n ca) := by simp [World.cell?, x1]
  have HCz : Hid (0 < n → ∃ b o, ao = some ⟨b, o, none⟩ ∧ W3.cell? ⟨b, o + 1, none⟩ = some (.bool (kid0 f))) := fun h0 => by
    obtain ⟨b, o, e, hc⟩ := HK.out (HNE.out h0)
    exact ⟨b, o, e, hg3.cell' hc id⟩
  -- the store of the bool, then of the whole
  have s1 := setc (j := 1) x3 (.bool z)
  obtain ⟨W4, hW4⟩ : ∃ W4, W3.setCell ⟨w.heap.size + 1 + 1, 1, none⟩ (.bool z) = W4 := ⟨_, rfl⟩
  have k4 : Keeps W3 W4 (fun b => b = w.heap.size + 1 + 1) := by rw [← hW4]; exact keep1 (j := 1) (Keeps.refl W3 _) _
  have y3 : W4.heap[w.heap.size + 1 + 1]? = some (.cells #[.string ⟨#[97]⟩, .bool z, .int .i64 k, .int .i64 wd, .int .i64 i, .int .i64 x, .slice ao n ca] 37) := by rw [← hW4, s1]; simp
  have y2 : W4.heap[w.heap.size + 1]? = _ := (k4.block _ (lt_of_heap x2) (by simp)).trans x2
  have s7 := set7 (.string ⟨#[97]⟩) (.bool z) (.int .i64 k) (.int .i64 wd) (.int .i64 i) (.int .i64 x) (.slice ao n ca) y2
  have HE : Hid (∃ w5, w5 = (((((((W4.setCell ⟨w.heap.size + 1, 0, none⟩ (.string ⟨#[97]⟩)).setCell ⟨w.heap.size + 1, 1, none⟩ (.bool z)).setCell ⟨w.heap.size + 1, 2, none⟩ (.int .i64 k)).setCell ⟨w.heap.size + 1, 3, none⟩ (.int .i64 wd)).setCell ⟨w.heap.size + 1, 4, none⟩ (.int .i64 i)).setCell ⟨w.heap.size + 1, 5, none⟩ (.int .i64 x)).setCell ⟨w.heap.size + 1, 6, none⟩ (.slice ao n ca)) ∧ w5.heap[w.heap.size + 1]? = some (.cells #[.string ⟨#[97]⟩, .bool z, .int .i64 k, .int .i64 wd, .int .i64 i, .int .i64 x, .slice ao n ca] 37) ∧ Gr w w5) :=
    ⟨_, rfl, s7.1, (hg3.trans k4 (fun j hj h => by omega)).trans s7.2 (fun j hj h => by omega)⟩
  obtain ⟨c0, c1, c2, c3, c4, c5, c6⟩ := cell7 y3
  obtain ⟨b0, b1, b2, b3, b4, b5, b6⟩ := cell7 y2
  simp only [Nat.zero_add] at b1 b2 b3 b4 b5 b6 c1 c2 c3 c4 c5 c6
  have e1 : W3.cell? ⟨w.heap.size + 1 + 1, 1, none⟩ = some (.bool false) := by simp [World.cell?, x3]
  have e2 := frz x3 1
  have z0 := frz y2 0
  have z1 := frz y2 1
  have z2 := frz y2 2
  have z3 := frz y2 3
  have z4 := frz y2 4
  have z5 := frz y2 5
  have z6 := frz y2 6
  clear x1 x2 x3 s1 y2 y3 s7 k4 hg3 HK HNE
  have FIN : True := trivial
  by_cases h1 : k = 1
  · subst h1
    obtain rfl : z = true := by rw [HZ.out]; simp
    go_enter Tryd.func55, Tryd.ntmps55
    go_wp2
    obtain ⟨w5, hw5, hb5, hg5⟩ := HE.out
    rw [← hw5]
    obtain ⟨v0, v1, v2, v3, v4, v5, v6⟩ := cell7 hb5
    simp only [Nat.zero_add] at v1 v2 v3 v4 v5 v6
    refine bodyPost_ret (v := .agg #[.string ⟨#[97]⟩, .bool true, .int .i64 1, .int .i64 wd, .int .i64 i, .int .i64 x, .slice ao n ca]) ?_ rfl ⟨rfl, hg5⟩
    simp [results, Tryd.f55, go_sem, v0, v1, v2, v3, v4, v5, v6]
  · have h1b := beqZ h1
    by_cases h20 : k = 20
    · subst h20
      by_cases hn1 : n = 1
      · subst hn1
        obtain ⟨b, o, rfl, hc⟩ := HCz.out (by omega)
        have hzz : z = kid0 f := by rw [HZ.out]; simp
        rw [← hzz] at hc
        clear hzz
        go_enter Tryd.func55, Tryd.ntmps55
        go_wp2
        obtain ⟨w5, hw5, hb5, hg5⟩ := HE.out
        rw [← hw5]
        obtain ⟨v0, v1, v2, v3, v4, v5, v6⟩ := cell7 hb5
        simp only [Nat.zero_add] at v1 v2 v3 v4 v5 v6
        refine bodyPost_ret (v := .agg #[.string ⟨#[97]⟩, .bool z, .int .i64 20, .int .i64 wd, .int .i64 i, .int .i64 x, .slice (some ⟨b, o, none⟩) 1 ca]) ?_ rfl ⟨rfl, hg5⟩
        simp [results, Tryd.f55, go_sem, v0, v1, v2, v3, v4, v5, v6]
      · have hn1b := beqZ (a := (n : Int)) (b := 1) (by omega)
        obtain rfl : z = false := by rw [HZ.out]; simp [hn1]
        go_enter Tryd.func55, Tryd.ntmps55
        go_wp2
        obtain ⟨w5, hw5, hb5, hg5⟩ := HE.out
        rw [← hw5]
        obtain ⟨v0, v1, v2, v3, v4, v5, v6⟩ := cell7 hb5
        simp only [Nat.zero_add] at v1 v2 v3 v4 v5 v6
        refine bodyPost_ret (v := .agg #[.string ⟨#[97]⟩, .bool false, .int .i64 20, .int .i64 wd, .int .i64 i, .int .i64 x, .slice ao n ca]) ?_ rfl ⟨rfl, hg5⟩
        simp [results, Tryd.f55, go_sem, v0, v1, v2, v3, v4, v5, v6]
    · have h20b := beqZ h20
      obtain rfl : z = false := by rw [HZ.out]; simp [h1, h20]
      go_enter Tryd.func55, Tryd.ntmps55
      go_wp2
      obtain ⟨w5, hw5, hb5, hg5⟩ := HE.out
      rw [← hw5]
      obtain ⟨v0, v1, v2, v3, v4, v5, v6⟩ := cell7 hb5
      simp only [Nat.zero_add] at v1 v2 v3 v4 v5 v6
      refine bodyPost_ret (v := .agg #[.string ⟨#[97]⟩, .bool false, .int .i64 k, .int .i64 wd, .int .i64 i, .int .i64 x, .slice ao n ca]) ?_ rfl ⟨rfl, hg5⟩
      simp [results, Tryd.f55, go_sem, v0, v1, v2, v3, v4, v5, v6]
end Go.Proofs.YtffmppnlddphaaaDoor.Kit
namespace Go.Proofs.YtffmppnlddphaaaDoor.Kit
open Go.RowKit Go.Shelf Go.Deep
set_option linter.unusedVariables false
attribute [local go_sem] run_store_func

set_option maxRecDepth 100000 in
set_option maxHeartbeats 2000000 in
theorem type53_walk {S : Nat → Prop} {d : Nat} {f : FT} {ao : Option Addr} {ca : Nat} {w : World} {z : Bool} (h : Fld S w d f ao ca) (hS : ∀ b, S b → b < w.heap.size) (hm : Ans 49 #[.agg #[.string ⟨#[97]⟩, .bool (nulA f), .int .i64 f.kind, .int .i64 f.width, .int .i64 f.id, .int .i64 f.index, .slice ao f.kids.length ca]] z w) :
    Ans 53 #[.agg #[.int .i64 f.kind, .int .i64 f.width, .int .i64 f.id, .int .i64 f.index, .slice ao f.kids.length ca]] z w := by
  intro W g
  have HC : Hid (∀ W1, Gr W W1 → Calls Tryd.prog 79 #[.agg #[.int .i64 f.kind, .int .i64 f.width, .int .i64 f.id, .int .i64 f.index, .slice ao f.kids.length ca]] W1 fun e w' => e = .returned (.agg #[.string ⟨#[97]⟩, .bool (nulA f), .int .i64 f.kind, .int .i64 f.width, .int .i64 f.id, .int .i64 f.index, .slice ao f.kids.length ca]) ∧ Gr W1 w') := fun W1 g1 => by
    have g' : Gr w W1 := g.trans g1 (fun _ _ h => h)
    exact asField_any S d f ao ca W1 (h.gr hS g') (fun b hb => by have := hS b hb; have := g'.size; omega)
  have HM := hidM (hm.gr g)
  unfold Ans at HM
  clear h g hm
  generalize nulA f = f1 at *
  generalize f.kind = f2 at *
  generalize f.width = f3 at *
  generalize f.id = f4 at *
  generalize f.index = f5 at *
  generalize f.kids.length = f6 at *
  go_enter Tryd.func53, Tryd.ntmps53
  go_wp2_with (go_at_call 79; refine Hid.out ?_)
  unfold Hid
  refine Calls.mono (HC.out _ (gr_alloc W _)) ?_
  rintro e W1 ⟨rfl, hg1⟩
  have HG := hidM ((gr_alloc W _).trans hg1 (fun _ _ h => h))
  clear hg1
  go_wp2_with (go_at_call 49; refine Hid.out ?_)
  unfold Hid
  refine Calls.mono (HM.out _ HG.out) ?_
  rintro e W2 ⟨rfl, hg2⟩
  have HE := hidM (HG.out.trans hg2 (fun _ _ h => h))
  clear hg2
  go_wp2_with fail
  go_ret
  exact ⟨rfl, HE.out⟩
set_option maxRecDepth 100000 in
set_option maxHeartbeats 2000000 in
theorem type54_walk {S : Nat → Prop} {d : Nat} {f : FT} {ao : Option Addr} {ca : Nat} {w : World} {z : Bool} (h : Fld S w d f ao ca) (hS : ∀ b, S b → b < w.heap.size) (hm : Ans 51 #[.agg #[.string ⟨#[97]⟩, .bool (nulR f), .int .i64 f.kind, .int .i64 f.width, .int .i64 f.id, .int .i64 f.index, .slice ao f.kids.length ca]] z w) :
    Ans 54 #[.agg #[.int .i64 f.kind, .int .i64 f.width, .int .i64 f.id, .int .i64 f.index, .slice ao f.kids.length ca]] z w := by
  intro W g
  have HC : Hid (∀ W1, Gr W W1 → Calls Tryd.prog 55 #[.agg #[.int .i64 f.kind, .int .i64 f.width, .int .i64 f.id, .int .i64 f.index, .slice ao f.kids.length ca]] W1 fun e w' => e = .returned (.agg #[.string ⟨#[97]⟩, .bool (nulR f), .int .i64 f.kind, .int .i64 f.width, .int .i64 f.id, .int .i64 f.index, .slice ao f.kids.length ca]) ∧ Gr W1 w') := fun W1 g1 => by
    have g' : Gr w W1 := g.trans g1 (fun _ _ h => h)
    exact holder_any S d f ao ca W1 (h.gr hS g') (fun b hb => by have := hS b hb; have := g'.size; omega)
  have HM := hidM (hm.gr g)
  unfold Ans at HM
  clear h g hm
  generalize nulR f = f1 at *
  generalize f.kind = f2 at *
  generalize f.width = f3 at *
  generalize f.id = f4 at *
  generalize f.index = f5 at *
  generalize f.kids.length = f6 at *
  go_enter Tryd.func54, Tryd.ntmps54
  go_wp2_with (go_at_call 55; refine Hid.out ?_)
  unfold Hid
  refine Calls.mono (HC.out _ (gr_alloc W _)) ?_
  rintro e W1 ⟨rfl, hg1⟩
  have HG := hidM ((gr_alloc W _).trans hg1 (fun _ _ h => h))
  clear hg1
  go_wp2_with (go_at_call 51; refine Hid.out ?_)
  unfold Hid
  refine Calls.mono (HM.out _ HG.out) ?_
  rintro e W2 ⟨rfl, hg2⟩
  have HE := hidM (HG.out.trans hg2 (fun _ _ h => h))
  clear hg2
  go_wp2_with fail
  go_ret
  exact ⟨rfl, HE.out⟩

theorem nul_eq {f : FT} (h : f.kind = 20 → f.kids.length ≤ 1) : nulA f = nulR f := by
  unfold nulA nulR
  by_cases h20 : f.kind = 20
  · have := h h20
    cases hk : f.kids with
    | nil => simp [h20]
    | cons a t =>
      rw [hk] at this
      have ht : t = [] := by simpa using this
      subst ht
      simp [h20]
  · simp [h20]
theorem nodes_cons (d : Nat) (g : FT) : nodes (d + 1) [g] [] false = ⟨[g], [0], false⟩ :: nodes d g.kids [0] (decide (g.kind = 19)) := by
  simp [nodes]
/-- the first field alone is right by the table -/
theorem AllR.table {d : Nat} {g : FT} (h : AllR (nodes (d + 1) [g] [] false)) : tableB g = true := by
  have h0 := h 0 (by rw [nodes_cons]; simp)
  have hx : (nodes (d + 1) [g] [] false)[0]'(by rw [nodes_cons]; simp) = ⟨[g], [0], false⟩ := by simp [nodes_cons]
  rw [hx] at h0
  have hf : LS.fld ⟨[g], [0], false⟩ = g := by simp [LS.fld, LS.idx]
  unfold wrongE at h0
  have := wr_tab h0
  rwa [hf] at this
theorem runs_one {g : FT} (h : tableB g = true) (hk : g.kind = 20) : g.kids.length ≤ 1 := by
  simp [tableB, hk, mostK, leastK] at h
  omega
/-- both say the same of a type -/
theorem both_type {S : Nat → Prop} {d : Nat} {f : FT} {ao : Option Addr} {ca : Nat} {w : World} (hT : Tab w) (h : Fld S w d f ao ca) (hd : d + 1 ≤ big) (hS : ∀ b, S b → b < w.heap.size) :
    ∃ z : Bool, Ans 53 #[.agg #[.int .i64 f.kind, .int .i64 f.width, .int .i64 f.id, .int .i64 f.index, .slice ao f.kids.length ca]] z w ∧ Ans 54 #[.agg #[.int .i64 f.kind, .int .i64 f.width, .int .i64 f.id, .int .i64 f.index, .slice ao f.kids.length ca]] z w ∧ (z = true → nulA f = nulR f ∧ AllR (nodes (d + 1) [holdA f] [] false)) := by
  obtain ⟨er, p, tt, hA⟩ := fault_is (0, 0) (nodes (d + 1) [holdA f] [] false)
  obtain ⟨er', p', tt', hR⟩ := fault_is (0, 0) (nodes (d + 1) [holdR f] [] false)
  have a53 : Ans 53 #[.agg #[.int .i64 f.kind, .int .i64 f.width, .int .i64 f.id, .int .i64 f.index, .slice ao f.kids.length ca]] (er == 0) w := type53_walk h hS (fieldMayBe_gen (f := holdA f) hT ⟨h.row, h.le⟩ hd hS hA)
  have a54 : Ans 54 #[.agg #[.int .i64 f.kind, .int .i64 f.width, .int .i64 f.id, .int .i64 f.index, .slice ao f.kids.length ca]] (er' == 0) w := type54_walk h hS (mayBeR_gen (f := holdR f) ⟨h.row, h.le⟩ hS hR)
  by_cases hk : f.kind = 20 → f.kids.length ≤ 1
  · have e := nul_eq hk
    have he : holdR f = holdA f := by unfold holdR holdA; rw [e]
    rw [he] at hR
    obtain ⟨rfl, rfl, rfl⟩ := hA.one hR
    refine ⟨_, a53, a54, fun hz => ⟨e, ?_⟩⟩
    have h0 : er = 0 := by simpa using hz
    subst h0
    exact hA.zero.2
  · have hk' : f.kind = 20 ∧ ¬ f.kids.length ≤ 1 := by
      refine ⟨Classical.byContradiction fun h => hk fun e => absurd e h, fun h => hk fun _ => h⟩
    have h1 : er ≠ 0 := fun e => by subst e; exact hk'.2 (runs_one (g := holdA f) hA.zero.2.table hk'.1)
    have h2 : er' ≠ 0 := fun e => by subst e; exact hk'.2 (runs_one (g := holdR f) hR.zero.2.table hk'.1)
    rw [beqZ h1] at a53
    rw [beqZ h2] at a54
    exact ⟨false, a53, a54, fun h => by cases h⟩
/-- both say the same of a field -/
theorem both_field {S : Nat → Prop} {d : Nat} {f : FT} {ao : Option Addr} {ca : Nat} {w : World} (hT : Tab w) (h : Fld S w d f ao ca) (hd : d + 1 ≤ big) (hS : ∀ b, S b → b < w.heap.size) :
    ∃ z : Bool, Ans 49 #[.agg #[.string f.name, .bool f.nul, .int .i64 f.kind, .int .i64 f.width, .int .i64 f.id, .int .i64 f.index, .slice ao f.kids.length ca]] z w ∧ Ans 51 #[.agg #[.string f.name, .bool f.nul, .int .i64 f.kind, .int .i64 f.width, .int .i64 f.id, .int .i64 f.index, .slice ao f.kids.length ca]] z w ∧ (z = true → AllR (nodes (d + 1) [f] [] false)) := by
  obtain ⟨er, p, tt, hA⟩ := fault_is (0, 0) (nodes (d + 1) [f] [] false)
  refine ⟨_, fieldMayBe_gen hT h hd hS hA, mayBeR_gen h hS hA, fun hz => ?_⟩
  have h0 : er = 0 := by simpa using hz
  subst h0
  exact hA.zero.2

/-! ### alike: of two lone fields -/
theorem sameAll_congr {α : Type} {p q : α → α → Bool} : ∀ {a b : List α}, (∀ x ∈ a, ∀ y ∈ b, p x y = q x y) → sameAll p a b = sameAll q a b
  | [], [], _ => rfl
  | [], _ :: _, _ => rfl
  | _ :: _, [], _ => rfl
  | x :: a, y :: b, h => by
    rw [sameAll, sameAll, h x (by simp) y (by simp), sameAll_congr fun x hx y hy => h x (by simp [hx]) y (by simp [hy])]
theorem alikeB_false {d : Nat} {a b : FT} (ha : deep d a.kids) (hb : deep d b.kids) : alikeB false 1 1 (nodes (d + 1) [a] [] false) (nodes (d + 1) [b] [] false) = ((a.nul == b.nul) && (tyEq a b && sameLs d a.kids b.kids)) := by
  have hfa : ∀ g : FT, LS.fld ⟨[g], [0], false⟩ = g := fun g => by simp [LS.fld, LS.idx]
  have e1 : ndEq false ⟨[a], [0], false⟩ ⟨[b], [0], false⟩ = nodeEq a b := by simp [ndEq, hfa]
  have e2 : sameAll (ndEq false) (nodes d a.kids [0] (decide (a.kind = 19))) (nodes d b.kids [0] (decide (b.kind = 19))) = sameAll nmEq (pre d a.kids) (pre d b.kids) := by
    rw [← nodes_pre d a.kids [0] (decide (a.kind = 19)), ← nodes_pre d b.kids [0] (decide (b.kind = 19)), sameAll_map]
    refine sameAll_congr fun x hx y _ => ?_
    have := nodes_path d _ _ _ x hx
    simp at this
    simp [ndEq, nmEq, this]
  unfold alikeB
  rw [nodes_cons, nodes_cons, sameAll, e1, e2]
  by_cases hl : a.kids.length = b.kids.length
  · have := pre_same d a.kids b.kids [] [] ha hb hl
    simp only [List.append_nil] at this
    rw [this]
    simp [nodeEq, hl, sameAll, Bool.and_assoc]
  · have h2 : sameLs d a.kids b.kids = false := by
      cases d with
      | zero => rw [sameLs]; exact sameAll_len hl
      | succ d => rw [sameLs_succ]; exact sameAll_len hl
    simp [nodeEq, hl, h2]
end Go.Proofs.YtffmppnlddphaaaDoor.Kit
namespace Go.Proofs.YtffmppnlddphaaaDoor.Kit
open Go.RowKit Go.Shelf Go.Deep
set_option linter.unusedVariables false
attribute [local go_sem] run_store_func

/-- two boxes, one behind the other -/
structure B2t (w W : World) (X : Nat) (c d : Array Value) (t : Nat) : Prop where
  g : Gr w W
  b0 : W.heap[X]? = some (.cells c t)
  b1 : W.heap[X + 1]? = some (.cells d t)
theorem B2t.gr {w W W' : World} {X t : Nat} {c d : Array Value} (h : B2t w W X c d t) (k : Gr W W') : B2t w W' X c d t := ⟨h.g.trans k (fun _ _ h => h), (k.block _ (lt_of_heap h.b0) id).trans h.b0, (k.block _ (lt_of_heap h.b1) id).trans h.b1⟩
theorem b2t_new (W : World) (c d : Array Value) (t : Nat) : B2t W ((W.alloc (.cells c t)).alloc (.cells d t)) W.heap.size c d t := by
  refine ⟨(gr_alloc W _).alloc _, (Below.heap_alloc _ _ _ (by simp)).trans (World.alloc_heap_new W _), ?_⟩
  have := World.alloc_heap_new (W.alloc (.cells c t)) (.cells d t)
  rw [World.size_alloc] at this
  exact this
set_option maxRecDepth 100000 in
set_option maxHeartbeats 4000000 in
theorem alikeFields_gen (s1 s2 : ByteArray) (n1 n2 : Bool) (k1 d1 i1 x1 k2 d2 i2 x2 : Int) (ao bo : Option Addr) (na ca nb cb : Nat) (x y r : Bool) (w : World) (ha : Ans 49 #[.agg #[.string s1, .bool n1, .int .i64 k1, .int .i64 d1, .int .i64 i1, .int .i64 x1, .slice ao na ca]] x w) (hb : Ans 49 #[.agg #[.string s2, .bool n2, .int .i64 k2, .int .i64 d2, .int .i64 i2, .int .i64 x2, .slice bo nb cb]] y w) (hc : Ans 50 #[.agg #[.int .i64 k1, .int .i64 d1, .int .i64 i1, .int .i64 x1, .slice ao na ca], .agg #[.int .i64 k2, .int .i64 d2, .int .i64 i2, .int .i64 x2, .slice bo nb cb]] r w) :
    Ans 15 #[.agg #[.string s1, .bool n1, .int .i64 k1, .int .i64 d1, .int .i64 i1, .int .i64 x1, .slice ao na ca], .agg #[.string s2, .bool n2, .int .i64 k2, .int .i64 d2, .int .i64 i2, .int .i64 x2, .slice bo nb cb]] (x && y && (n1 == n2) && r) w := by
  intro W g
  have HA := hidM (ha.gr g)
  have HB := hidM (hb.gr g)
  have HC := hidM (hc.gr g)
  clear ha hb hc g
  unfold Ans at HA HB HC
  obtain ⟨W0, hW0⟩ : ∃ W0, (W.alloc (.cells #[.string s1, .bool n1, .int .i64 k1, .int .i64 d1, .int .i64 i1, .int .i64 x1, .slice ao na ca] 37)).alloc (.cells #[.string s2, .bool n2, .int .i64 k2, .int .i64 d2, .int .i64 i2, .int .i64 x2, .slice bo nb cb] 37) = W0 := ⟨_, rfl⟩
  have HX : Hid (B2t W W0 W.heap.size #[.string s1, .bool n1, .int .i64 k1, .int .i64 d1, .int .i64 i1, .int .i64 x1, .slice ao na ca] #[.string s2, .bool n2, .int .i64 k2, .int .i64 d2, .int .i64 i2, .int .i64 x2, .slice bo nb cb] 37) := by rw [← hW0]; exact b2t_new W _ _ _
  obtain ⟨p0, p1, p2, p3, p4, p5, p6⟩ := cell7 HX.out.b0; simp only [Nat.zero_add] at p1 p2 p3 p4 p5 p6
  obtain ⟨q0, q1, q2, q3, q4, q5, q6⟩ := cell7 HX.out.b1; simp only [Nat.zero_add] at q1 q2 q3 q4 q5 q6
  go_enter Tryd.func15, Tryd.ntmps15
  go_wp2_with (go_at_call 49; refine Hid.out ?_)
  unfold Hid
  try rw [hW0]
  refine Calls.mono (HA.out _ HX.out.g) ?_
  rintro e W1 ⟨rfl, hg1⟩
  clear p0 p1 p2 p3 p4 p5 p6 q0 q1 q2 q3 q4 q5 q6 hW0
  replace HX := hidM (HX.out.gr hg1)
  clear hg1 HA
  cases x with
  | false =>
    go_wp2_with fail
    go_ret
    exact ⟨by simp, HX.out.g⟩
  | true =>
    obtain ⟨q0, q1, q2, q3, q4, q5, q6⟩ := cell7 HX.out.b1; simp only [Nat.zero_add] at q1 q2 q3 q4 q5 q6
    go_wp2_with (go_at_call 49; refine Hid.out ?_)
    unfold Hid
    refine Calls.mono (HB.out _ HX.out.g) ?_
    rintro e W2 ⟨rfl, hg1⟩
    clear q0 q1 q2 q3 q4 q5 q6
    replace HX := hidM (HX.out.gr hg1)
    clear hg1 HB
    cases y with
    | false =>
      go_wp2_with fail
      go_ret
      exact ⟨by simp, HX.out.g⟩
    | true =>
      obtain ⟨p0, p1, p2, p3, p4, p5, p6⟩ := cell7 HX.out.b0; simp only [Nat.zero_add] at p1 p2 p3 p4 p5 p6
      obtain ⟨q0, q1, q2, q3, q4, q5, q6⟩ := cell7 HX.out.b1; simp only [Nat.zero_add] at q1 q2 q3 q4 q5 q6
      by_cases hn : n1 = n2
      · subst hn
        go_wp2_with (go_at_call 50; refine Hid.out ?_)
        unfold Hid
        refine Calls.mono (HC.out _ HX.out.g) ?_
        rintro e W3 ⟨rfl, hg1⟩
        have HE := hidM (HX.out.g.trans hg1 (fun _ _ h => h))
        clear p0 p1 p2 p3 p4 p5 p6 q0 q1 q2 q3 q4 q5 q6 hg1 HX
        go_wp2_with fail
        go_ret
        exact ⟨by simp, HE.out⟩
      · have hnb : (n1 == n2) = false := by simp [hn]
        go_wp2
        go_ret
        exact ⟨by simp [hnb], HX.out.g⟩
set_option maxRecDepth 100000 in
set_option maxHeartbeats 4000000 in
theorem alikeFieldsR_gen (s1 s2 : ByteArray) (n1 n2 : Bool) (k1 d1 i1 x1 k2 d2 i2 x2 : Int) (ao bo : Option Addr) (na ca nb cb : Nat) (x y r : Bool) (w : World) (ha : Ans 51 #[.agg #[.string s1, .bool n1, .int .i64 k1, .int .i64 d1, .int .i64 i1, .int .i64 x1, .slice ao na ca]] x w) (hb : Ans 51 #[.agg #[.string s2, .bool n2, .int .i64 k2, .int .i64 d2, .int .i64 i2, .int .i64 x2, .slice bo nb cb]] y w)
    (hc : ∀ W r1 r2, Gr w W → W.heap[r1]? = some (.cells #[.string s1, .bool n1, .int .i64 k1, .int .i64 d1, .int .i64 i1, .int .i64 x1, .slice ao na ca] 37) → W.heap[r2]? = some (.cells #[.string s2, .bool n2, .int .i64 k2, .int .i64 d2, .int .i64 i2, .int .i64 x2, .slice bo nb cb] 37) → Calls Tryd.prog 52 #[.slice (some ⟨r1, 0, none⟩) 1 1, .slice (some ⟨r2, 0, none⟩) 1 1, .bool false] W fun e w' => e = .returned (.bool r) ∧ Gr W w') :
    Ans 16 #[.agg #[.string s1, .bool n1, .int .i64 k1, .int .i64 d1, .int .i64 i1, .int .i64 x1, .slice ao na ca], .agg #[.string s2, .bool n2, .int .i64 k2, .int .i64 d2, .int .i64 i2, .int .i64 x2, .slice bo nb cb]] (x && y && r) w := by
  intro W g
  have HA := hidM (ha.gr g)
  have HB := hidM (hb.gr g)
  have HC : Hid (∀ W' r1 r2, Gr W W' → W'.heap[r1]? = some (.cells #[.string s1, .bool n1, .int .i64 k1, .int .i64 d1, .int .i64 i1, .int .i64 x1, .slice ao na ca] 37) → W'.heap[r2]? = some (.cells #[.string s2, .bool n2, .int .i64 k2, .int .i64 d2, .int .i64 i2, .int .i64 x2, .slice bo nb cb] 37) → Calls Tryd.prog 52 #[.slice (some ⟨r1, 0, none⟩) 1 1, .slice (some ⟨r2, 0, none⟩) 1 1, .bool false] W' fun e w' => e = .returned (.bool r) ∧ Gr W' w') := fun W' r1 r2 g' => hc W' r1 r2 (g.trans g' (fun _ _ h => h))
  clear ha hb hc g
  unfold Ans at HA HB
  obtain ⟨W0, hW0⟩ : ∃ W0, (W.alloc (.cells #[.string s1, .bool n1, .int .i64 k1, .int .i64 d1, .int .i64 i1, .int .i64 x1, .slice ao na ca] 37)).alloc (.cells #[.string s2, .bool n2, .int .i64 k2, .int .i64 d2, .int .i64 i2, .int .i64 x2, .slice bo nb cb] 37) = W0 := ⟨_, rfl⟩
  have HX : Hid (B2t W W0 W.heap.size #[.string s1, .bool n1, .int .i64 k1, .int .i64 d1, .int .i64 i1, .int .i64 x1, .slice ao na ca] #[.string s2, .bool n2, .int .i64 k2, .int .i64 d2, .int .i64 i2, .int .i64 x2, .slice bo nb cb] 37) := by rw [← hW0]; exact b2t_new W _ _ _
  obtain ⟨p0, p1, p2, p3, p4, p5, p6⟩ := cell7 HX.out.b0; simp only [Nat.zero_add] at p1 p2 p3 p4 p5 p6
  obtain ⟨q0, q1, q2, q3, q4, q5, q6⟩ := cell7 HX.out.b1; simp only [Nat.zero_add] at q1 q2 q3 q4 q5 q6
  go_enter Tryd.func16, Tryd.ntmps16
  go_wp2_with (go_at_call 51; refine Hid.out ?_)
  unfold Hid
  try rw [hW0]
  refine Calls.mono (HA.out _ HX.out.g) ?_
  rintro e W1 ⟨rfl, hg1⟩
  clear p0 p1 p2 p3 p4 p5 p6 q0 q1 q2 q3 q4 q5 q6 hW0
  replace HX := hidM (HX.out.gr hg1)
  clear hg1 HA
  cases x with
  | false =>
    go_wp2_with fail
    go_ret
    exact ⟨by simp, HX.out.g⟩
  | true =>
    obtain ⟨q0, q1, q2, q3, q4, q5, q6⟩ := cell7 HX.out.b1; simp only [Nat.zero_add] at q1 q2 q3 q4 q5 q6
    go_wp2_with (go_at_call 51; refine Hid.out ?_)
    unfold Hid
    refine Calls.mono (HB.out _ HX.out.g) ?_
    rintro e W2 ⟨rfl, hg1⟩
    clear q0 q1 q2 q3 q4 q5 q6
    replace HX := hidM (HX.out.gr hg1)
    clear hg1 HB
    cases y with
    | false =>
      go_wp2_with fail
      go_ret
      exact ⟨by simp, HX.out.g⟩
    | true =>
      obtain ⟨p0, p1, p2, p3, p4, p5, p6⟩ := cell7 HX.out.b0; simp only [Nat.zero_add] at p1 p2 p3 p4 p5 p6
      obtain ⟨q0, q1, q2, q3, q4, q5, q6⟩ := cell7 HX.out.b1; simp only [Nat.zero_add] at q1 q2 q3 q4 q5 q6
      have q0' := fun (o : Obj) => (gr_alloc W2 o).cell' q0 id
      have q1' := fun (o : Obj) => (gr_alloc W2 o).cell' q1 id
      have q2' := fun (o : Obj) => (gr_alloc W2 o).cell' q2 id
      have q3' := fun (o : Obj) => (gr_alloc W2 o).cell' q3 id
      have q4' := fun (o : Obj) => (gr_alloc W2 o).cell' q4 id
      have q5' := fun (o : Obj) => (gr_alloc W2 o).cell' q5 id
      have q6' := fun (o : Obj) => (gr_alloc W2 o).cell' q6 id
      have HN := hidM (b2t_new W2 #[.string s1, .bool n1, .int .i64 k1, .int .i64 d1, .int .i64 i1, .int .i64 x1, .slice ao na ca] #[.string s2, .bool n2, .int .i64 k2, .int .i64 d2, .int .i64 i2, .int .i64 x2, .slice bo nb cb] 37)
      go_wp2_with (go_at_call 52; refine Hid.out ?_)
      unfold Hid
      refine Calls.mono (HC.out _ W2.heap.size (W2.heap.size + 1) (HX.out.g.trans HN.out.g (fun _ _ h => h)) HN.out.b0 HN.out.b1) ?_
      rintro e W3 ⟨rfl, hg1⟩
      have HE := hidM ((HX.out.g.trans HN.out.g (fun _ _ h => h)).trans hg1 (fun _ _ h => h))
      clear p0 p1 p2 p3 p4 p5 p6 q0 q1 q2 q3 q4 q5 q6 q0' q1' q2' q3' q4' q5' q6' hg1 HX HN
      go_wp2_with fail
      go_ret
      exact ⟨by simp, HE.out⟩
set_option maxRecDepth 100000 in
set_option maxHeartbeats 4000000 in
theorem alikeT_gen (k1 d1 i1 x1 k2 d2 i2 x2 : Int) (ao bo : Option Addr) (na ca nb cb : Nat) (x y r : Bool) (w : World) (ha : Ans 53 #[.agg #[.int .i64 k1, .int .i64 d1, .int .i64 i1, .int .i64 x1, .slice ao na ca]] x w) (hb : Ans 53 #[.agg #[.int .i64 k2, .int .i64 d2, .int .i64 i2, .int .i64 x2, .slice bo nb cb]] y w) (hc : Ans 50 #[.agg #[.int .i64 k1, .int .i64 d1, .int .i64 i1, .int .i64 x1, .slice ao na ca], .agg #[.int .i64 k2, .int .i64 d2, .int .i64 i2, .int .i64 x2, .slice bo nb cb]] r w) :
    Ans 17 #[.agg #[.int .i64 k1, .int .i64 d1, .int .i64 i1, .int .i64 x1, .slice ao na ca], .agg #[.int .i64 k2, .int .i64 d2, .int .i64 i2, .int .i64 x2, .slice bo nb cb]] (x && y && r) w := by
  intro W g
  have HA := hidM (ha.gr g)
  have HB := hidM (hb.gr g)
  have HC := hidM (hc.gr g)
  clear ha hb hc g
  unfold Ans at HA HB HC
  obtain ⟨W0, hW0⟩ : ∃ W0, (W.alloc (.cells #[.int .i64 k1, .int .i64 d1, .int .i64 i1, .int .i64 x1, .slice ao na ca] 35)).alloc (.cells #[.int .i64 k2, .int .i64 d2, .int .i64 i2, .int .i64 x2, .slice bo nb cb] 35) = W0 := ⟨_, rfl⟩
  have HX : Hid (B2t W W0 W.heap.size #[.int .i64 k1, .int .i64 d1, .int .i64 i1, .int .i64 x1, .slice ao na ca] #[.int .i64 k2, .int .i64 d2, .int .i64 i2, .int .i64 x2, .slice bo nb cb] 35) := by rw [← hW0]; exact b2t_new W _ _ _
  obtain ⟨p0, p1, p2, p3, p4⟩ := cell5 HX.out.b0
  obtain ⟨q0, q1, q2, q3, q4⟩ := cell5 HX.out.b1
  go_enter Tryd.func17, Tryd.ntmps17
  go_wp2_with (go_at_call 53; refine Hid.out ?_)
  unfold Hid
  try rw [hW0]
  refine Calls.mono (HA.out _ HX.out.g) ?_
  rintro e W1 ⟨rfl, hg1⟩
  clear p0 p1 p2 p3 p4 q0 q1 q2 q3 q4 hW0
  replace HX := hidM (HX.out.gr hg1)
  clear hg1 HA
  cases x with
  | false =>
    go_wp2_with fail
    go_ret
    exact ⟨by simp, HX.out.g⟩
  | true =>
    obtain ⟨q0, q1, q2, q3, q4⟩ := cell5 HX.out.b1
    go_wp2_with (go_at_call 53; refine Hid.out ?_)
    unfold Hid
    refine Calls.mono (HB.out _ HX.out.g) ?_
    rintro e W2 ⟨rfl, hg1⟩
    clear q0 q1 q2 q3 q4
    replace HX := hidM (HX.out.gr hg1)
    clear hg1 HB
    cases y with
    | false =>
      go_wp2_with fail
      go_ret
      exact ⟨by simp, HX.out.g⟩
    | true =>
      obtain ⟨p0, p1, p2, p3, p4⟩ := cell5 HX.out.b0
      obtain ⟨q0, q1, q2, q3, q4⟩ := cell5 HX.out.b1
      go_wp2_with (go_at_call 50; refine Hid.out ?_)
      unfold Hid
      refine Calls.mono (HC.out _ HX.out.g) ?_
      rintro e W3 ⟨rfl, hg1⟩
      have HE := hidM (HX.out.g.trans hg1 (fun _ _ h => h))
      clear p0 p1 p2 p3 p4 q0 q1 q2 q3 q4 hg1 HX
      go_wp2_with fail
      go_ret
      exact ⟨by simp, HE.out⟩
end Go.Proofs.YtffmppnlddphaaaDoor.Kit
namespace Go.Proofs.YtffmppnlddphaaaDoor.Kit
open Go.RowKit Go.Shelf Go.Deep
set_option linter.unusedVariables false
attribute [local go_sem] run_store_func

theorem t10 {W V : World} {X : Nat} {k1 d1 i1 x1 k2 d2 i2 x2 : Int} {ao bo : Option Addr} {na ca nb cb : Nat} (h : B2t W V X #[.int .i64 k1, .int .i64 d1, .int .i64 i1, .int .i64 x1, .slice ao na ca] #[.int .i64 k2, .int .i64 d2, .int .i64 i2, .int .i64 x2, .slice bo nb cb] 35) : Hid (B2t W V X #[.int .i64 k1, .int .i64 d1, .int .i64 i1, .int .i64 x1, .slice ao na ca] #[.int .i64 k2, .int .i64 d2, .int .i64 i2, .int .i64 x2, .slice bo nb cb] 35) ∧ V.cell? ⟨X, 0, none⟩ = some (.int .i64 k1) ∧ V.cell? ⟨X, 1, none⟩ = some (.int .i64 d1) ∧ V.cell? ⟨X, 2, none⟩ = some (.int .i64 i1) ∧ V.cell? ⟨X, 3, none⟩ = some (.int .i64 x1) ∧ V.cell? ⟨X, 4, none⟩ = some (.slice ao na ca) ∧ V.cell? ⟨X + 1, 0, none⟩ = some (.int .i64 k2) ∧ V.cell? ⟨X + 1, 1, none⟩ = some (.int .i64 d2) ∧ V.cell? ⟨X + 1, 2, none⟩ = some (.int .i64 i2) ∧ V.cell? ⟨X + 1, 3, none⟩ = some (.int .i64 x2) ∧ V.cell? ⟨X + 1, 4, none⟩ = some (.slice bo nb cb) := by
  obtain ⟨a0, a1, a2, a3, a4⟩ := cell5 h.b0
  obtain ⟨b0, b1, b2, b3, b4⟩ := cell5 h.b1
  exact ⟨h, a0, a1, a2, a3, a4, b0, b1, b2, b3, b4⟩
theorem t10_kept {W V : World} {X : Nat} {k1 d1 i1 x1 k2 d2 i2 x2 : Int} {ao bo : Option Addr} {na ca nb cb : Nat} {V' : World} (h : Hid (B2t W V X #[.int .i64 k1, .int .i64 d1, .int .i64 i1, .int .i64 x1, .slice ao na ca] #[.int .i64 k2, .int .i64 d2, .int .i64 i2, .int .i64 x2, .slice bo nb cb] 35) ∧ V.cell? ⟨X, 0, none⟩ = some (.int .i64 k1) ∧ V.cell? ⟨X, 1, none⟩ = some (.int .i64 d1) ∧ V.cell? ⟨X, 2, none⟩ = some (.int .i64 i1) ∧ V.cell? ⟨X, 3, none⟩ = some (.int .i64 x1) ∧ V.cell? ⟨X, 4, none⟩ = some (.slice ao na ca) ∧ V.cell? ⟨X + 1, 0, none⟩ = some (.int .i64 k2) ∧ V.cell? ⟨X + 1, 1, none⟩ = some (.int .i64 d2) ∧ V.cell? ⟨X + 1, 2, none⟩ = some (.int .i64 i2) ∧ V.cell? ⟨X + 1, 3, none⟩ = some (.int .i64 x2) ∧ V.cell? ⟨X + 1, 4, none⟩ = some (.slice bo nb cb)) (k : Hid (Gr V V')) : Hid (B2t W V' X #[.int .i64 k1, .int .i64 d1, .int .i64 i1, .int .i64 x1, .slice ao na ca] #[.int .i64 k2, .int .i64 d2, .int .i64 i2, .int .i64 x2, .slice bo nb cb] 35) ∧ V'.cell? ⟨X, 0, none⟩ = some (.int .i64 k1) ∧ V'.cell? ⟨X, 1, none⟩ = some (.int .i64 d1) ∧ V'.cell? ⟨X, 2, none⟩ = some (.int .i64 i1) ∧ V'.cell? ⟨X, 3, none⟩ = some (.int .i64 x1) ∧ V'.cell? ⟨X, 4, none⟩ = some (.slice ao na ca) ∧ V'.cell? ⟨X + 1, 0, none⟩ = some (.int .i64 k2) ∧ V'.cell? ⟨X + 1, 1, none⟩ = some (.int .i64 d2) ∧ V'.cell? ⟨X + 1, 2, none⟩ = some (.int .i64 i2) ∧ V'.cell? ⟨X + 1, 3, none⟩ = some (.int .i64 x2) ∧ V'.cell? ⟨X + 1, 4, none⟩ = some (.slice bo nb cb) := t10 (h.1.out.gr k.out)
theorem t10_g {W V : World} {X : Nat} {k1 d1 i1 x1 k2 d2 i2 x2 : Int} {ao bo : Option Addr} {na ca nb cb : Nat} (h : Hid (B2t W V X #[.int .i64 k1, .int .i64 d1, .int .i64 i1, .int .i64 x1, .slice ao na ca] #[.int .i64 k2, .int .i64 d2, .int .i64 i2, .int .i64 x2, .slice bo nb cb] 35) ∧ V.cell? ⟨X, 0, none⟩ = some (.int .i64 k1) ∧ V.cell? ⟨X, 1, none⟩ = some (.int .i64 d1) ∧ V.cell? ⟨X, 2, none⟩ = some (.int .i64 i1) ∧ V.cell? ⟨X, 3, none⟩ = some (.int .i64 x1) ∧ V.cell? ⟨X, 4, none⟩ = some (.slice ao na ca) ∧ V.cell? ⟨X + 1, 0, none⟩ = some (.int .i64 k2) ∧ V.cell? ⟨X + 1, 1, none⟩ = some (.int .i64 d2) ∧ V.cell? ⟨X + 1, 2, none⟩ = some (.int .i64 i2) ∧ V.cell? ⟨X + 1, 3, none⟩ = some (.int .i64 x2) ∧ V.cell? ⟨X + 1, 4, none⟩ = some (.slice bo nb cb)) : Gr W V := h.1.out.g

set_option maxRecDepth 100000 in
set_option maxHeartbeats 8000000 in
theorem alikeTR_gen (n1 n2 : Bool) (k1 d1 i1 x1 k2 d2 i2 x2 : Int) (ao bo : Option Addr) (na ca nb cb : Nat) (x y r : Bool) (w : World) (ha : Ans 54 #[.agg #[.int .i64 k1, .int .i64 d1, .int .i64 i1, .int .i64 x1, .slice ao na ca]] x w) (hb : Ans 54 #[.agg #[.int .i64 k2, .int .i64 d2, .int .i64 i2, .int .i64 x2, .slice bo nb cb]] y w)
    (h1 : ∀ W, Gr w W → Calls Tryd.prog 55 #[.agg #[.int .i64 k1, .int .i64 d1, .int .i64 i1, .int .i64 x1, .slice ao na ca]] W fun e w' => e = .returned (.agg #[.string ⟨#[97]⟩, .bool n1, .int .i64 k1, .int .i64 d1, .int .i64 i1, .int .i64 x1, .slice ao na ca]) ∧ Gr W w') (h2 : ∀ W, Gr w W → Calls Tryd.prog 55 #[.agg #[.int .i64 k2, .int .i64 d2, .int .i64 i2, .int .i64 x2, .slice bo nb cb]] W fun e w' => e = .returned (.agg #[.string ⟨#[97]⟩, .bool n2, .int .i64 k2, .int .i64 d2, .int .i64 i2, .int .i64 x2, .slice bo nb cb]) ∧ Gr W w')
    (hc : ∀ W r1 r2, Gr w W → W.heap[r1]? = some (.cells #[.string ⟨#[97]⟩, .bool n1, .int .i64 k1, .int .i64 d1, .int .i64 i1, .int .i64 x1, .slice ao na ca] 37) → W.heap[r2]? = some (.cells #[.string ⟨#[97]⟩, .bool n2, .int .i64 k2, .int .i64 d2, .int .i64 i2, .int .i64 x2, .slice bo nb cb] 37) → Calls Tryd.prog 52 #[.slice (some ⟨r1, 0, none⟩) 1 1, .slice (some ⟨r2, 0, none⟩) 1 1, .bool false] W fun e w' => e = .returned (.bool r) ∧ Gr W w') :
    Ans 18 #[.agg #[.int .i64 k1, .int .i64 d1, .int .i64 i1, .int .i64 x1, .slice ao na ca], .agg #[.int .i64 k2, .int .i64 d2, .int .i64 i2, .int .i64 x2, .slice bo nb cb]] (x && y && r) w := by
  intro W g
  have HA := hidM (ha.gr g)
  have HB := hidM (hb.gr g)
  have HH1 : Hid (∀ W', Gr W W' → Calls Tryd.prog 55 #[.agg #[.int .i64 k1, .int .i64 d1, .int .i64 i1, .int .i64 x1, .slice ao na ca]] W' fun e w' => e = .returned (.agg #[.string ⟨#[97]⟩, .bool n1, .int .i64 k1, .int .i64 d1, .int .i64 i1, .int .i64 x1, .slice ao na ca]) ∧ Gr W' w') := fun W' g' => h1 W' (g.trans g' (fun _ _ h => h))
  have HH2 : Hid (∀ W', Gr W W' → Calls Tryd.prog 55 #[.agg #[.int .i64 k2, .int .i64 d2, .int .i64 i2, .int .i64 x2, .slice bo nb cb]] W' fun e w' => e = .returned (.agg #[.string ⟨#[97]⟩, .bool n2, .int .i64 k2, .int .i64 d2, .int .i64 i2, .int .i64 x2, .slice bo nb cb]) ∧ Gr W' w') := fun W' g' => h2 W' (g.trans g' (fun _ _ h => h))
  have HC : Hid (∀ W' r1 r2, Gr W W' → W'.heap[r1]? = some (.cells #[.string ⟨#[97]⟩, .bool n1, .int .i64 k1, .int .i64 d1, .int .i64 i1, .int .i64 x1, .slice ao na ca] 37) → W'.heap[r2]? = some (.cells #[.string ⟨#[97]⟩, .bool n2, .int .i64 k2, .int .i64 d2, .int .i64 i2, .int .i64 x2, .slice bo nb cb] 37) → Calls Tryd.prog 52 #[.slice (some ⟨r1, 0, none⟩) 1 1, .slice (some ⟨r2, 0, none⟩) 1 1, .bool false] W' fun e w' => e = .returned (.bool r) ∧ Gr W' w') := fun W' r1 r2 g' => hc W' r1 r2 (g.trans g' (fun _ _ h => h))
  clear ha hb hc g h1 h2
  unfold Ans at HA HB
  obtain ⟨W0, hW0⟩ : ∃ W0, (W.alloc (.cells #[.int .i64 k1, .int .i64 d1, .int .i64 i1, .int .i64 x1, .slice ao na ca] 35)).alloc (.cells #[.int .i64 k2, .int .i64 d2, .int .i64 i2, .int .i64 x2, .slice bo nb cb] 35) = W0 := ⟨_, rfl⟩
  obtain ⟨X, hX⟩ : ∃ X, X = W.heap.size := ⟨_, rfl⟩
  have HX : Hid (B2t W W0 X #[.int .i64 k1, .int .i64 d1, .int .i64 i1, .int .i64 x1, .slice ao na ca] #[.int .i64 k2, .int .i64 d2, .int .i64 i2, .int .i64 x2, .slice bo nb cb] 35) := by rw [← hW0, hX]; exact b2t_new W _ _ _
  go_enter Tryd.func18, Tryd.ntmps18
  go_wp2
  try rw [hW0]
  try rw [← hX]
  clear hW0 hX
  have HIN : Hid (Hid (B2t W W0.drew X #[.int .i64 k1, .int .i64 d1, .int .i64 i1, .int .i64 x1, .slice ao na ca] #[.int .i64 k2, .int .i64 d2, .int .i64 i2, .int .i64 x2, .slice bo nb cb] 35) ∧ W0.drew.cell? ⟨X, 0, none⟩ = some (.int .i64 k1) ∧ W0.drew.cell? ⟨X, 1, none⟩ = some (.int .i64 d1) ∧ W0.drew.cell? ⟨X, 2, none⟩ = some (.int .i64 i1) ∧ W0.drew.cell? ⟨X, 3, none⟩ = some (.int .i64 x1) ∧ W0.drew.cell? ⟨X, 4, none⟩ = some (.slice ao na ca) ∧ W0.drew.cell? ⟨X + 1, 0, none⟩ = some (.int .i64 k2) ∧ W0.drew.cell? ⟨X + 1, 1, none⟩ = some (.int .i64 d2) ∧ W0.drew.cell? ⟨X + 1, 2, none⟩ = some (.int .i64 i2) ∧ W0.drew.cell? ⟨X + 1, 3, none⟩ = some (.int .i64 x2) ∧ W0.drew.cell? ⟨X + 1, 4, none⟩ = some (.slice bo nb cb)) := t10 (HX.out.gr gr_drew)
  cases x with
  | false =>
    refine wp_region_held_drew (S := fun w' => Hid (B2t W w' X #[.int .i64 k1, .int .i64 d1, .int .i64 i1, .int .i64 x1, .slice ao na ca] #[.int .i64 k2, .int .i64 d2, .int .i64 i2, .int .i64 x2, .slice bo nb cb] 35) ∧ w'.cell? ⟨X, 0, none⟩ = some (.int .i64 k1) ∧ w'.cell? ⟨X, 1, none⟩ = some (.int .i64 d1) ∧ w'.cell? ⟨X, 2, none⟩ = some (.int .i64 i1) ∧ w'.cell? ⟨X, 3, none⟩ = some (.int .i64 x1) ∧ w'.cell? ⟨X, 4, none⟩ = some (.slice ao na ca) ∧ w'.cell? ⟨X + 1, 0, none⟩ = some (.int .i64 k2) ∧ w'.cell? ⟨X + 1, 1, none⟩ = some (.int .i64 d2) ∧ w'.cell? ⟨X + 1, 2, none⟩ = some (.int .i64 i2) ∧ w'.cell? ⟨X + 1, 3, none⟩ = some (.int .i64 x2) ∧ w'.cell? ⟨X + 1, 4, none⟩ = some (.slice bo nb cb)) (by kernel_rfl) HIN.out (fun hHeld => ?_)
    refine wpAnyH_take (i := 0) (oi := { dst := some 5, op := Op.load 35 (Operand.tmp 2), type := 35, pos := "ref.go:271", after := #[], guard := none }) (v := ?vu1) rfl (by kernel_rfl) (by kernel_rfl) (by kernel_rfl) (fun _ _ _ h => h) (Or.inl ⟨by rfl, ?yu1⟩) (by assumption) ?ru1
    case yu1 => (intro w hSw; obtain ⟨-, s1, s2, s3, s4, s5, s6, s7, s8, s9, s10⟩ := hSw; go_simp; (try with_reducible rfl))
    (try simp only [Act.put]); (try simp only [List.setIfInBounds_toArray]); (try simp only [List.set_cons_succ]); (try simp only [List.set_cons_zero])
    refine wpAnyH_ready (rs := [1]) (by kernel_rfl) (by simp) ?_
    refine AllReadyH.cons (o := { dst := some 6, op := Op.call { callee := Callee.value (Operand.func 54), args := #[Operand.tmp 5], argTypes := #[35] }, type := 4, pos := "ref.go:271", after := #[{ on := 0, ground := Ground.data }], guard := none }) rfl (fun K hK => ?_) AllReadyH.nil
    go_simp
    go_at_call 54
    refine Calls.mono (HA.out _ (t10_g hHeld)) ?_
    rintro e' v1 ⟨rfl, hk1⟩
    replace hk1 := hidM hk1
    go_wp2_with fail
    refine hK.out _ _ (t10_kept hHeld hk1) (fun hHeld => ?_)
    clear hK K
    (try simp only [Act.put]); (try simp only [List.setIfInBounds_toArray]); (try simp only [List.set_cons_succ]); (try simp only [List.set_cons_zero])
    refine wpAnyH_take (i := 2) (oi := { dst := some 7, op := Op.move (Operand.tmp 6), type := 4, pos := "ref.go:271", after := #[{ on := 1, ground := Ground.data }, { on := 1, ground := Ground.chain }], guard := none }) (v := ?vu2) rfl (by kernel_rfl) (by kernel_rfl) (by kernel_rfl) (fun _ _ _ h => h) (Or.inl ⟨by rfl, ?yu2⟩) (by assumption) ?ru2
    case yu2 => (intro w hSw; obtain ⟨-, s1, s2, s3, s4, s5, s6, s7, s8, s9, s10⟩ := hSw; go_simp; (try with_reducible rfl))
    (try simp only [Act.put]); (try simp only [List.setIfInBounds_toArray]); (try simp only [List.set_cons_succ]); (try simp only [List.set_cons_zero])
    refine wpAnyH_take (i := 3) (oi := { dst := some 8, op := Op.load 35 (Operand.tmp 3), type := 35, pos := "ref.go:271", after := #[{ on := 2, ground := Ground.guard }], guard := some (2, true) }) (v := undef) rfl (by kernel_rfl) (by kernel_rfl) (by kernel_rfl) (fun _ _ _ h => h) (Or.inr ⟨by kernel_rfl, rfl⟩) (by assumption) ?ru3
    (try simp only [Act.put]); (try simp only [List.setIfInBounds_toArray]); (try simp only [List.set_cons_succ]); (try simp only [List.set_cons_zero])
    refine wpAnyH_take (i := 4) (oi := { dst := some 9, op := Op.call { callee := Callee.value (Operand.func 54), args := #[Operand.tmp 8], argTypes := #[35] }, type := 4, pos := "ref.go:271", after := #[{ on := 3, ground := Ground.data }, { on := 2, ground := Ground.chain }, { on := 2, ground := Ground.guard }], guard := some (2, true) }) (v := undef) rfl (by kernel_rfl) (by kernel_rfl) (by kernel_rfl) (fun _ _ _ h => h) (Or.inr ⟨by kernel_rfl, rfl⟩) (by assumption) ?ru4
    (try simp only [Act.put]); (try simp only [List.setIfInBounds_toArray]); (try simp only [List.set_cons_succ]); (try simp only [List.set_cons_zero])
    refine wpAnyH_take (i := 5) (oi := { dst := some 10, op := Op.pick (Operand.tmp 7) (Operand.tmp 9) (Operand.const (Value.bool false)), type := 4, pos := "ref.go:271", after := #[{ on := 2, ground := Ground.data }, { on := 4, ground := Ground.data }], guard := none }) (v := ?vu5) rfl (by kernel_rfl) (by kernel_rfl) (by kernel_rfl) (fun _ _ _ h => h) (Or.inl ⟨by rfl, ?yu5⟩) (by assumption) ?ru5
    case yu5 => (intro w hSw; obtain ⟨-, s1, s2, s3, s4, s5, s6, s7, s8, s9, s10⟩ := hSw; go_simp; (try with_reducible rfl))
    (try simp only [Act.put]); (try simp only [List.setIfInBounds_toArray]); (try simp only [List.set_cons_succ]); (try simp only [List.set_cons_zero])
    refine wpAnyH_take (i := 6) (oi := { dst := some 11, op := Op.move (Operand.tmp 10), type := 4, pos := "ref.go:271", after := #[{ on := 5, ground := Ground.data }, { on := 4, ground := Ground.chain }], guard := none }) (v := ?vu6) rfl (by kernel_rfl) (by kernel_rfl) (by kernel_rfl) (fun _ _ _ h => h) (Or.inl ⟨by rfl, ?yu6⟩) (by assumption) ?ru6
    case yu6 => (intro w hSw; obtain ⟨-, s1, s2, s3, s4, s5, s6, s7, s8, s9, s10⟩ := hSw; go_simp; (try with_reducible rfl))
    (try simp only [Act.put]); (try simp only [List.setIfInBounds_toArray]); (try simp only [List.set_cons_succ]); (try simp only [List.set_cons_zero])
    refine wpAnyH_take (i := 7) (oi := { dst := some 12, op := Op.load 35 (Operand.tmp 2), type := 35, pos := "ref.go:271", after := #[{ on := 6, ground := Ground.guard }], guard := some (6, true) }) (v := undef) rfl (by kernel_rfl) (by kernel_rfl) (by kernel_rfl) (fun _ _ _ h => h) (Or.inr ⟨by kernel_rfl, rfl⟩) (by assumption) ?ru7
    (try simp only [Act.put]); (try simp only [List.setIfInBounds_toArray]); (try simp only [List.set_cons_succ]); (try simp only [List.set_cons_zero])
    refine wpAnyH_take (i := 8) (oi := { dst := some 13, op := Op.call { callee := Callee.value (Operand.func 55), args := #[Operand.tmp 12], argTypes := #[35] }, type := 37, pos := "ref.go:271", after := #[{ on := 7, ground := Ground.data }, { on := 6, ground := Ground.chain }, { on := 6, ground := Ground.guard }], guard := some (6, true) }) (v := undef) rfl (by kernel_rfl) (by kernel_rfl) (by kernel_rfl) (fun _ _ _ h => h) (Or.inr ⟨by kernel_rfl, rfl⟩) (by assumption) ?ru8
    (try simp only [Act.put]); (try simp only [List.setIfInBounds_toArray]); (try simp only [List.set_cons_succ]); (try simp only [List.set_cons_zero])
    refine wpAnyH_take (i := 9) (oi := { dst := some 14, op := Op.buildSlice 24 1 #[(0, Operand.tmp 13)], type := 24, pos := "ref.go:271", after := #[{ on := 8, ground := Ground.data }, { on := 6, ground := Ground.guard }], guard := some (6, true) }) (v := undef) rfl (by kernel_rfl) (by kernel_rfl) (by kernel_rfl) (fun _ _ _ h => h) (Or.inr ⟨by kernel_rfl, rfl⟩) (by assumption) ?ru9
    (try simp only [Act.put]); (try simp only [List.setIfInBounds_toArray]); (try simp only [List.set_cons_succ]); (try simp only [List.set_cons_zero])
    refine wpAnyH_take (i := 10) (oi := { dst := some 15, op := Op.load 35 (Operand.tmp 3), type := 35, pos := "ref.go:271", after := #[{ on := 6, ground := Ground.guard }], guard := some (6, true) }) (v := undef) rfl (by kernel_rfl) (by kernel_rfl) (by kernel_rfl) (fun _ _ _ h => h) (Or.inr ⟨by kernel_rfl, rfl⟩) (by assumption) ?ru10
    (try simp only [Act.put]); (try simp only [List.setIfInBounds_toArray]); (try simp only [List.set_cons_succ]); (try simp only [List.set_cons_zero])
    refine wpAnyH_take (i := 11) (oi := { dst := some 16, op := Op.call { callee := Callee.value (Operand.func 55), args := #[Operand.tmp 15], argTypes := #[35] }, type := 37, pos := "ref.go:271", after := #[{ on := 10, ground := Ground.data }, { on := 8, ground := Ground.chain }, { on := 6, ground := Ground.guard }], guard := some (6, true) }) (v := undef) rfl (by kernel_rfl) (by kernel_rfl) (by kernel_rfl) (fun _ _ _ h => h) (Or.inr ⟨by kernel_rfl, rfl⟩) (by assumption) ?ru11
    (try simp only [Act.put]); (try simp only [List.setIfInBounds_toArray]); (try simp only [List.set_cons_succ]); (try simp only [List.set_cons_zero])
    refine wpAnyH_take (i := 12) (oi := { dst := some 17, op := Op.buildSlice 24 1 #[(0, Operand.tmp 16)], type := 24, pos := "ref.go:271", after := #[{ on := 11, ground := Ground.data }, { on := 6, ground := Ground.guard }], guard := some (6, true) }) (v := undef) rfl (by kernel_rfl) (by kernel_rfl) (by kernel_rfl) (fun _ _ _ h => h) (Or.inr ⟨by kernel_rfl, rfl⟩) (by assumption) ?ru12
    (try simp only [Act.put]); (try simp only [List.setIfInBounds_toArray]); (try simp only [List.set_cons_succ]); (try simp only [List.set_cons_zero])
    refine wpAnyH_take (i := 13) (oi := { dst := some 18, op := Op.call { callee := Callee.value (Operand.func 52), args := #[Operand.tmp 14, Operand.tmp 17, Operand.const (Value.bool false)], argTypes := #[24, 24, 4] }, type := 4, pos := "ref.go:271", after := #[{ on := 9, ground := Ground.data }, { on := 12, ground := Ground.data }, { on := 11, ground := Ground.chain }, { on := 6, ground := Ground.guard }], guard := some (6, true) }) (v := undef) rfl (by kernel_rfl) (by kernel_rfl) (by kernel_rfl) (fun _ _ _ h => h) (Or.inr ⟨by kernel_rfl, rfl⟩) (by assumption) ?ru13
    (try simp only [Act.put]); (try simp only [List.setIfInBounds_toArray]); (try simp only [List.set_cons_succ]); (try simp only [List.set_cons_zero])
    refine wpAnyH_take (i := 14) (oi := { dst := some 19, op := Op.pick (Operand.tmp 11) (Operand.tmp 18) (Operand.const (Value.bool false)), type := 4, pos := "ref.go:271", after := #[{ on := 6, ground := Ground.data }, { on := 13, ground := Ground.data }], guard := none }) (v := ?vu14) rfl (by kernel_rfl) (by kernel_rfl) (by kernel_rfl) (fun _ _ _ h => h) (Or.inl ⟨by rfl, ?yu14⟩) (by assumption) ?ru14
    case yu14 => (intro w hSw; obtain ⟨-, s1, s2, s3, s4, s5, s6, s7, s8, s9, s10⟩ := hSw; go_simp; (try with_reducible rfl))
    (try simp only [Act.put]); (try simp only [List.setIfInBounds_toArray]); (try simp only [List.set_cons_succ]); (try simp only [List.set_cons_zero])
    refine wpAnyH_take (i := 15) (oi := { dst := some 4, op := Op.assign (Operand.tmp 19), type := 4, pos := "ref.go:271", after := #[{ on := 14, ground := Ground.data }, { on := 13, ground := Ground.chain }, { on := 0, ground := Ground.phase }, { on := 1, ground := Ground.phase }, { on := 2, ground := Ground.phase }, { on := 3, ground := Ground.phase }, { on := 4, ground := Ground.phase }, { on := 5, ground := Ground.phase }, { on := 6, ground := Ground.phase }, { on := 7, ground := Ground.phase }, { on := 8, ground := Ground.phase }, { on := 9, ground := Ground.phase }, { on := 10, ground := Ground.phase }, { on := 11, ground := Ground.phase }, { on := 12, ground := Ground.phase }, { on := 13, ground := Ground.phase }, { on := 14, ground := Ground.phase }], guard := none }) (v := ?vu15) rfl (by kernel_rfl) (by kernel_rfl) (by kernel_rfl) (fun _ _ _ h => h) (Or.inl ⟨by rfl, ?yu15⟩) (by assumption) ?ru15
    case yu15 => (intro w hSw; obtain ⟨-, s1, s2, s3, s4, s5, s6, s7, s8, s9, s10⟩ := hSw; go_simp; (try with_reducible rfl))
    (try simp only [Act.put]); (try simp only [List.setIfInBounds_toArray]); (try simp only [List.set_cons_succ]); (try simp only [List.set_cons_zero])
    refine wpAnyH_done (by kernel_rfl) ?_ _
    have HE := hidM hHeld.1.out.g
    go_wp2
    go_ret
    exact ⟨by simp, HE.out⟩
  | true =>
    cases y with
    | false =>
      refine wp_region_held_drew (S := fun w' => Hid (B2t W w' X #[.int .i64 k1, .int .i64 d1, .int .i64 i1, .int .i64 x1, .slice ao na ca] #[.int .i64 k2, .int .i64 d2, .int .i64 i2, .int .i64 x2, .slice bo nb cb] 35) ∧ w'.cell? ⟨X, 0, none⟩ = some (.int .i64 k1) ∧ w'.cell? ⟨X, 1, none⟩ = some (.int .i64 d1) ∧ w'.cell? ⟨X, 2, none⟩ = some (.int .i64 i1) ∧ w'.cell? ⟨X, 3, none⟩ = some (.int .i64 x1) ∧ w'.cell? ⟨X, 4, none⟩ = some (.slice ao na ca) ∧ w'.cell? ⟨X + 1, 0, none⟩ = some (.int .i64 k2) ∧ w'.cell? ⟨X + 1, 1, none⟩ = some (.int .i64 d2) ∧ w'.cell? ⟨X + 1, 2, none⟩ = some (.int .i64 i2) ∧ w'.cell? ⟨X + 1, 3, none⟩ = some (.int .i64 x2) ∧ w'.cell? ⟨X + 1, 4, none⟩ = some (.slice bo nb cb)) (by kernel_rfl) HIN.out (fun hHeld => ?_)
      refine wpAnyH_take (i := 0) (oi := { dst := some 5, op := Op.load 35 (Operand.tmp 2), type := 35, pos := "ref.go:271", after := #[], guard := none }) (v := ?vu16) rfl (by kernel_rfl) (by kernel_rfl) (by kernel_rfl) (fun _ _ _ h => h) (Or.inl ⟨by rfl, ?yu16⟩) (by assumption) ?ru16
      case yu16 => (intro w hSw; obtain ⟨-, s1, s2, s3, s4, s5, s6, s7, s8, s9, s10⟩ := hSw; go_simp; (try with_reducible rfl))
      (try simp only [Act.put]); (try simp only [List.setIfInBounds_toArray]); (try simp only [List.set_cons_succ]); (try simp only [List.set_cons_zero])
      refine wpAnyH_ready (rs := [1]) (by kernel_rfl) (by simp) ?_
      refine AllReadyH.cons (o := { dst := some 6, op := Op.call { callee := Callee.value (Operand.func 54), args := #[Operand.tmp 5], argTypes := #[35] }, type := 4, pos := "ref.go:271", after := #[{ on := 0, ground := Ground.data }], guard := none }) rfl (fun K hK => ?_) AllReadyH.nil
      go_simp
      go_at_call 54
      refine Calls.mono (HA.out _ (t10_g hHeld)) ?_
      rintro e' v1 ⟨rfl, hk1⟩
      replace hk1 := hidM hk1
      go_wp2_with fail
      refine hK.out _ _ (t10_kept hHeld hk1) (fun hHeld => ?_)
      clear hK K
      (try simp only [Act.put]); (try simp only [List.setIfInBounds_toArray]); (try simp only [List.set_cons_succ]); (try simp only [List.set_cons_zero])
      refine wpAnyH_take (i := 2) (oi := { dst := some 7, op := Op.move (Operand.tmp 6), type := 4, pos := "ref.go:271", after := #[{ on := 1, ground := Ground.data }, { on := 1, ground := Ground.chain }], guard := none }) (v := ?vu17) rfl (by kernel_rfl) (by kernel_rfl) (by kernel_rfl) (fun _ _ _ h => h) (Or.inl ⟨by rfl, ?yu17⟩) (by assumption) ?ru17
      case yu17 => (intro w hSw; obtain ⟨-, s1, s2, s3, s4, s5, s6, s7, s8, s9, s10⟩ := hSw; go_simp; (try with_reducible rfl))
      (try simp only [Act.put]); (try simp only [List.setIfInBounds_toArray]); (try simp only [List.set_cons_succ]); (try simp only [List.set_cons_zero])
      refine wpAnyH_take (i := 3) (oi := { dst := some 8, op := Op.load 35 (Operand.tmp 3), type := 35, pos := "ref.go:271", after := #[{ on := 2, ground := Ground.guard }], guard := some (2, true) }) (v := ?vu18) rfl (by kernel_rfl) (by kernel_rfl) (by kernel_rfl) (fun _ _ _ h => h) (Or.inl ⟨by rfl, ?yu18⟩) (by assumption) ?ru18
      case yu18 => (intro w hSw; obtain ⟨-, s1, s2, s3, s4, s5, s6, s7, s8, s9, s10⟩ := hSw; go_simp; (try with_reducible rfl))
      (try simp only [Act.put]); (try simp only [List.setIfInBounds_toArray]); (try simp only [List.set_cons_succ]); (try simp only [List.set_cons_zero])
      refine wpAnyH_ready (rs := [4]) (by kernel_rfl) (by simp) ?_
      refine AllReadyH.cons (o := { dst := some 9, op := Op.call { callee := Callee.value (Operand.func 54), args := #[Operand.tmp 8], argTypes := #[35] }, type := 4, pos := "ref.go:271", after := #[{ on := 3, ground := Ground.data }, { on := 2, ground := Ground.chain }, { on := 2, ground := Ground.guard }], guard := some (2, true) }) rfl (fun K hK => ?_) AllReadyH.nil
      go_simp
      go_at_call 54
      refine Calls.mono (HB.out _ (t10_g hHeld)) ?_
      rintro e' v2 ⟨rfl, hk2⟩
      replace hk2 := hidM hk2
      go_wp2_with fail
      refine hK.out _ _ (t10_kept hHeld hk2) (fun hHeld => ?_)
      clear hK K
      (try simp only [Act.put]); (try simp only [List.setIfInBounds_toArray]); (try simp only [List.set_cons_succ]); (try simp only [List.set_cons_zero])
      refine wpAnyH_take (i := 5) (oi := { dst := some 10, op := Op.pick (Operand.tmp 7) (Operand.tmp 9) (Operand.const (Value.bool false)), type := 4, pos := "ref.go:271", after := #[{ on := 2, ground := Ground.data }, { on := 4, ground := Ground.data }], guard := none }) (v := ?vu19) rfl (by kernel_rfl) (by kernel_rfl) (by kernel_rfl) (fun _ _ _ h => h) (Or.inl ⟨by rfl, ?yu19⟩) (by assumption) ?ru19
      case yu19 => (intro w hSw; obtain ⟨-, s1, s2, s3, s4, s5, s6, s7, s8, s9, s10⟩ := hSw; go_simp; (try with_reducible rfl))
      (try simp only [Act.put]); (try simp only [List.setIfInBounds_toArray]); (try simp only [List.set_cons_succ]); (try simp only [List.set_cons_zero])
      refine wpAnyH_take (i := 6) (oi := { dst := some 11, op := Op.move (Operand.tmp 10), type := 4, pos := "ref.go:271", after := #[{ on := 5, ground := Ground.data }, { on := 4, ground := Ground.chain }], guard := none }) (v := ?vu20) rfl (by kernel_rfl) (by kernel_rfl) (by kernel_rfl) (fun _ _ _ h => h) (Or.inl ⟨by rfl, ?yu20⟩) (by assumption) ?ru20
      case yu20 => (intro w hSw; obtain ⟨-, s1, s2, s3, s4, s5, s6, s7, s8, s9, s10⟩ := hSw; go_simp; (try with_reducible rfl))
      (try simp only [Act.put]); (try simp only [List.setIfInBounds_toArray]); (try simp only [List.set_cons_succ]); (try simp only [List.set_cons_zero])
      refine wpAnyH_take (i := 7) (oi := { dst := some 12, op := Op.load 35 (Operand.tmp 2), type := 35, pos := "ref.go:271", after := #[{ on := 6, ground := Ground.guard }], guard := some (6, true) }) (v := undef) rfl (by kernel_rfl) (by kernel_rfl) (by kernel_rfl) (fun _ _ _ h => h) (Or.inr ⟨by kernel_rfl, rfl⟩) (by assumption) ?ru21
      (try simp only [Act.put]); (try simp only [List.setIfInBounds_toArray]); (try simp only [List.set_cons_succ]); (try simp only [List.set_cons_zero])
      refine wpAnyH_take (i := 8) (oi := { dst := some 13, op := Op.call { callee := Callee.value (Operand.func 55), args := #[Operand.tmp 12], argTypes := #[35] }, type := 37, pos := "ref.go:271", after := #[{ on := 7, ground := Ground.data }, { on := 6, ground := Ground.chain }, { on := 6, ground := Ground.guard }], guard := some (6, true) }) (v := undef) rfl (by kernel_rfl) (by kernel_rfl) (by kernel_rfl) (fun _ _ _ h => h) (Or.inr ⟨by kernel_rfl, rfl⟩) (by assumption) ?ru22
      (try simp only [Act.put]); (try simp only [List.setIfInBounds_toArray]); (try simp only [List.set_cons_succ]); (try simp only [List.set_cons_zero])
      refine wpAnyH_take (i := 9) (oi := { dst := some 14, op := Op.buildSlice 24 1 #[(0, Operand.tmp 13)], type := 24, pos := "ref.go:271", after := #[{ on := 8, ground := Ground.data }, { on := 6, ground := Ground.guard }], guard := some (6, true) }) (v := undef) rfl (by kernel_rfl) (by kernel_rfl) (by kernel_rfl) (fun _ _ _ h => h) (Or.inr ⟨by kernel_rfl, rfl⟩) (by assumption) ?ru23
      (try simp only [Act.put]); (try simp only [List.setIfInBounds_toArray]); (try simp only [List.set_cons_succ]); (try simp only [List.set_cons_zero])
      refine wpAnyH_take (i := 10) (oi := { dst := some 15, op := Op.load 35 (Operand.tmp 3), type := 35, pos := "ref.go:271", after := #[{ on := 6, ground := Ground.guard }], guard := some (6, true) }) (v := undef) rfl (by kernel_rfl) (by kernel_rfl) (by kernel_rfl) (fun _ _ _ h => h) (Or.inr ⟨by kernel_rfl, rfl⟩) (by assumption) ?ru24
      (try simp only [Act.put]); (try simp only [List.setIfInBounds_toArray]); (try simp only [List.set_cons_succ]); (try simp only [List.set_cons_zero])
      refine wpAnyH_take (i := 11) (oi := { dst := some 16, op := Op.call { callee := Callee.value (Operand.func 55), args := #[Operand.tmp 15], argTypes := #[35] }, type := 37, pos := "ref.go:271", after := #[{ on := 10, ground := Ground.data }, { on := 8, ground := Ground.chain }, { on := 6, ground := Ground.guard }], guard := some (6, true) }) (v := undef) rfl (by kernel_rfl) (by kernel_rfl) (by kernel_rfl) (fun _ _ _ h => h) (Or.inr ⟨by kernel_rfl, rfl⟩) (by assumption) ?ru25
      (try simp only [Act.put]); (try simp only [List.setIfInBounds_toArray]); (try simp only [List.set_cons_succ]); (try simp only [List.set_cons_zero])
      refine wpAnyH_take (i := 12) (oi := { dst := some 17, op := Op.buildSlice 24 1 #[(0, Operand.tmp 16)], type := 24, pos := "ref.go:271", after := #[{ on := 11, ground := Ground.data }, { on := 6, ground := Ground.guard }], guard := some (6, true) }) (v := undef) rfl (by kernel_rfl) (by kernel_rfl) (by kernel_rfl) (fun _ _ _ h => h) (Or.inr ⟨by kernel_rfl, rfl⟩) (by assumption) ?ru26
      (try simp only [Act.put]); (try simp only [List.setIfInBounds_toArray]); (try simp only [List.set_cons_succ]); (try simp only [List.set_cons_zero])
      refine wpAnyH_take (i := 13) (oi := { dst := some 18, op := Op.call { callee := Callee.value (Operand.func 52), args := #[Operand.tmp 14, Operand.tmp 17, Operand.const (Value.bool false)], argTypes := #[24, 24, 4] }, type := 4, pos := "ref.go:271", after := #[{ on := 9, ground := Ground.data }, { on := 12, ground := Ground.data }, { on := 11, ground := Ground.chain }, { on := 6, ground := Ground.guard }], guard := some (6, true) }) (v := undef) rfl (by kernel_rfl) (by kernel_rfl) (by kernel_rfl) (fun _ _ _ h => h) (Or.inr ⟨by kernel_rfl, rfl⟩) (by assumption) ?ru27
      (try simp only [Act.put]); (try simp only [List.setIfInBounds_toArray]); (try simp only [List.set_cons_succ]); (try simp only [List.set_cons_zero])
      refine wpAnyH_take (i := 14) (oi := { dst := some 19, op := Op.pick (Operand.tmp 11) (Operand.tmp 18) (Operand.const (Value.bool false)), type := 4, pos := "ref.go:271", after := #[{ on := 6, ground := Ground.data }, { on := 13, ground := Ground.data }], guard := none }) (v := ?vu28) rfl (by kernel_rfl) (by kernel_rfl) (by kernel_rfl) (fun _ _ _ h => h) (Or.inl ⟨by rfl, ?yu28⟩) (by assumption) ?ru28
      case yu28 => (intro w hSw; obtain ⟨-, s1, s2, s3, s4, s5, s6, s7, s8, s9, s10⟩ := hSw; go_simp; (try with_reducible rfl))
      (try simp only [Act.put]); (try simp only [List.setIfInBounds_toArray]); (try simp only [List.set_cons_succ]); (try simp only [List.set_cons_zero])
      refine wpAnyH_take (i := 15) (oi := { dst := some 4, op := Op.assign (Operand.tmp 19), type := 4, pos := "ref.go:271", after := #[{ on := 14, ground := Ground.data }, { on := 13, ground := Ground.chain }, { on := 0, ground := Ground.phase }, { on := 1, ground := Ground.phase }, { on := 2, ground := Ground.phase }, { on := 3, ground := Ground.phase }, { on := 4, ground := Ground.phase }, { on := 5, ground := Ground.phase }, { on := 6, ground := Ground.phase }, { on := 7, ground := Ground.phase }, { on := 8, ground := Ground.phase }, { on := 9, ground := Ground.phase }, { on := 10, ground := Ground.phase }, { on := 11, ground := Ground.phase }, { on := 12, ground := Ground.phase }, { on := 13, ground := Ground.phase }, { on := 14, ground := Ground.phase }], guard := none }) (v := ?vu29) rfl (by kernel_rfl) (by kernel_rfl) (by kernel_rfl) (fun _ _ _ h => h) (Or.inl ⟨by rfl, ?yu29⟩) (by assumption) ?ru29
      case yu29 => (intro w hSw; obtain ⟨-, s1, s2, s3, s4, s5, s6, s7, s8, s9, s10⟩ := hSw; go_simp; (try with_reducible rfl))
      (try simp only [Act.put]); (try simp only [List.setIfInBounds_toArray]); (try simp only [List.set_cons_succ]); (try simp only [List.set_cons_zero])
      refine wpAnyH_done (by kernel_rfl) ?_ _
      have HE := hidM hHeld.1.out.g
      go_wp2
      go_ret
      exact ⟨by simp, HE.out⟩
    | true =>
      go_region_held3 (fun w' => Hid (B2t W w' X #[.int .i64 k1, .int .i64 d1, .int .i64 i1, .int .i64 x1, .slice ao na ca] #[.int .i64 k2, .int .i64 d2, .int .i64 i2, .int .i64 x2, .slice bo nb cb] 35) ∧ w'.cell? ⟨X, 0, none⟩ = some (.int .i64 k1) ∧ w'.cell? ⟨X, 1, none⟩ = some (.int .i64 d1) ∧ w'.cell? ⟨X, 2, none⟩ = some (.int .i64 i1) ∧ w'.cell? ⟨X, 3, none⟩ = some (.int .i64 x1) ∧ w'.cell? ⟨X, 4, none⟩ = some (.slice ao na ca) ∧ w'.cell? ⟨X + 1, 0, none⟩ = some (.int .i64 k2) ∧ w'.cell? ⟨X + 1, 1, none⟩ = some (.int .i64 d2) ∧ w'.cell? ⟨X + 1, 2, none⟩ = some (.int .i64 i2) ∧ w'.cell? ⟨X + 1, 3, none⟩ = some (.int .i64 x2) ∧ w'.cell? ⟨X + 1, 4, none⟩ = some (.slice bo nb cb)) (first | with_reducible exact HIN.out | with_reducible assumption | with_reducible exact t10_kept (by assumption) hk5 | with_reducible exact t10_kept (by assumption) hk4 | with_reducible exact t10_kept (by assumption) hk3 | with_reducible exact t10_kept (by assumption) hk2 | with_reducible exact t10_kept (by assumption) hk1 | exact t10_kept (by assumption) (hidM (gr_alloc _ _)))
        (first
          | (go_at_call 54; (with_reducible show Calls _ _ #[.agg #[.int .i64 k1, .int .i64 d1, .int .i64 i1, .int .i64 x1, .slice ao na ca]] _ _); refine Calls.mono (HA.out _ (t10_g (by assumption))) ?_; rintro e v1 ⟨rfl, hk1⟩; replace hk1 := hidM hk1)
          | (go_at_call 54; (with_reducible show Calls _ _ #[.agg #[.int .i64 k2, .int .i64 d2, .int .i64 i2, .int .i64 x2, .slice bo nb cb]] _ _); refine Calls.mono (HB.out _ (t10_g (by assumption))) ?_; rintro e v2 ⟨rfl, hk2⟩; replace hk2 := hidM hk2)
          | (go_at_call 55; (with_reducible show Calls _ _ #[.agg #[.int .i64 k1, .int .i64 d1, .int .i64 i1, .int .i64 x1, .slice ao na ca]] _ _); refine Calls.mono (HH1.out _ (t10_g (by assumption))) ?_; rintro e v3 ⟨rfl, hk3⟩; replace hk3 := hidM hk3)
          | (go_at_call 55; (with_reducible show Calls _ _ #[.agg #[.int .i64 k2, .int .i64 d2, .int .i64 i2, .int .i64 x2, .slice bo nb cb]] _ _); refine Calls.mono (HH2.out _ (t10_g (by assumption))) ?_; rintro e v4 ⟨rfl, hk4⟩; replace hk4 := hidM hk4)
          | (go_at_call 52; refine Calls.mono (HC.out _ _ _ (t10_g (by assumption)) (by first | exact World.alloc_heap_new _ _ | exact (b2t_new _ _ _ 37).b0 | exact (b2t_new _ _ _ 37).b1 | exact (Below.heap_alloc _ _ _ (by have := hk4.out.size; simp at this ⊢; omega)).trans ((hk4.out.block _ (by simp) id).trans (World.alloc_heap_new _ _)) | exact (Below.heap_alloc _ _ _ (by have := hk3.out.size; simp at this ⊢; omega)).trans ((hk3.out.block _ (by simp) id).trans (World.alloc_heap_new _ _))) (by first | exact World.alloc_heap_new _ _ | exact (b2t_new _ _ _ 37).b0 | exact (b2t_new _ _ _ 37).b1 | exact (Below.heap_alloc _ _ _ (by have := hk4.out.size; simp at this ⊢; omega)).trans ((hk4.out.block _ (by simp) id).trans (World.alloc_heap_new _ _)) | exact (Below.heap_alloc _ _ _ (by have := hk3.out.size; simp at this ⊢; omega)).trans ((hk3.out.block _ (by simp) id).trans (World.alloc_heap_new _ _)))) ?_; rintro e v5 ⟨rfl, hk5⟩; replace hk5 := hidM hk5))
      all_goals
        rename_i hHeld
        have HE := hidM hHeld.1.out.g
        clear hHeld HIN
        go_wp2
        go_ret
        exact ⟨by simp, HE.out⟩
end Go.Proofs.YtffmppnlddphaaaDoor.Kit
namespace Go.Proofs.YtffmppnlddphaaaDoor.Kit
open Go.RowKit Go.Shelf Go.Deep
set_option linter.unusedVariables false
attribute [local go_sem] run_store_func

/-! ### widths and shapes -/
set_option maxRecDepth 100000 in
set_option maxHeartbeats 2000000 in
theorem numberWidth_any (k : Nat) (hk : k ≤ 20) (w : World) : Calls Tryd.prog 57 #[.int .i64 (k : Int)] w fun e w' => e = .returned (.int .i64 (bytesK k)) ∧ w' = w := by
  have : k = 0 ∨ k = 1 ∨ k = 2 ∨ k = 3 ∨ k = 4 ∨ k = 5 ∨ k = 6 ∨ k = 7 ∨ k = 8 ∨ k = 9 ∨ k = 10 ∨ k = 11 ∨ k = 12 ∨ k = 13 ∨ k = 14 ∨ k = 15 ∨ k = 16 ∨ k = 17 ∨ k = 18 ∨ k = 19 ∨ k = 20 := by omega
  rcases this with rfl | rfl | rfl | rfl | rfl | rfl | rfl | rfl | rfl | rfl | rfl | rfl | rfl | rfl | rfl | rfl | rfl | rfl | rfl | rfl | rfl
  all_goals
    go_enter Tryd.func57, Tryd.ntmps57
    go_wp2
    go_ret
    exact ⟨rfl, rfl⟩
/-- how many bytes -/
def widthV (k ix : Nat) (d : Int) : Int := if k = 19 then bytesK ix else if k = 14 then d else bytesK k
set_option maxRecDepth 100000 in
set_option maxHeartbeats 2000000 in
theorem width_true (k ix : Nat) (d1 i1 x1 : Int) (ao : Option Addr) (na ca : Nat) (w : World) (hT : Tab w) (hk : k ≤ 20) (hix : k = 19 → x1 = (ix : Int) ∧ ix ≤ 10) (hm : Ans 53 #[.agg #[.int .i64 (k : Int), .int .i64 d1, .int .i64 i1, .int .i64 x1, .slice ao na ca]] true w) :
    AnsV 23 #[.agg #[.int .i64 (k : Int), .int .i64 d1, .int .i64 i1, .int .i64 x1, .slice ao na ca]] (.int .i64 (widthV k ix d1)) w := by
  intro W g
  have HM := hidM (hm.gr g)
  unfold Ans at HM
  have hbx := World.alloc_heap_new W (.cells #[.int .i64 (k : Int), .int .i64 d1, .int .i64 i1, .int .i64 x1, .slice ao na ca] 35)
  have HX := hidM hbx
  clear hm hbx
  have HT := hidM (hT.gr g)
  clear hT g
  unfold widthV
  by_cases h19 : k = 19
  · subst h19
    obtain ⟨rfl, hix10⟩ := hix rfl
    go_enter Tryd.func23, Tryd.ntmps23
    go_wp2_with (go_at_call 53; refine Hid.out ?_)
    unfold Hid
    refine Calls.mono (HM.out _ (gr_alloc W _)) ?_
    rintro e W1 ⟨rfl, hg1⟩
    have y1 := (hg1.block _ (lt_of_heap HX.out) id).trans HX.out
    obtain ⟨p0, p1, p2, p3, p4⟩ := cell5 y1
    have HG := hidM ((gr_alloc W _).trans hg1 (fun _ _ h => h))
    have t1 := ((HT.out.gr HG.out).2 ix (by omega)).c1
    have hi : (ix : Int) < 21 := by omega
    clear hg1 y1
    go_wp2_with fail
    go_ret
    exact ⟨by simp, HG.out⟩
  · by_cases h14 : k = 14
    · subst h14
      go_enter Tryd.func23, Tryd.ntmps23
      go_wp2_with (go_at_call 53; refine Hid.out ?_)
      unfold Hid
      refine Calls.mono (HM.out _ (gr_alloc W _)) ?_
      rintro e W1 ⟨rfl, hg1⟩
      have y1 := (hg1.block _ (lt_of_heap HX.out) id).trans HX.out
      obtain ⟨p0, p1, p2, p3, p4⟩ := cell5 y1
      have HG := hidM ((gr_alloc W _).trans hg1 (fun _ _ h => h))
      clear hg1 y1
      go_wp2_with fail
      go_ret
      exact ⟨by simp, HG.out⟩
    · have b19 := beqZ (a := (k : Int)) (b := 19) (by omega)
      have b14 := beqZ (a := (k : Int)) (b := 14) (by omega)
      go_enter Tryd.func23, Tryd.ntmps23
      go_wp2_with (go_at_call 53; refine Hid.out ?_)
      unfold Hid
      refine Calls.mono (HM.out _ (gr_alloc W _)) ?_
      rintro e W1 ⟨rfl, hg1⟩
      have y1 := (hg1.block _ (lt_of_heap HX.out) id).trans HX.out
      obtain ⟨p0, p1, p2, p3, p4⟩ := cell5 y1
      have HG := hidM ((gr_alloc W _).trans hg1 (fun _ _ h => h))
      have t1 := ((HT.out.gr HG.out).2 k (by omega)).c1
      have hi : (k : Int) < 21 := by omega
      clear hg1 y1
      go_wp2_with fail
      go_ret
      exact ⟨by simp, HG.out⟩
set_option maxRecDepth 100000 in
set_option maxHeartbeats 2000000 in
theorem widthR_true (k ix : Nat) (d1 i1 x1 : Int) (ao : Option Addr) (na ca : Nat) (w : World) (hk : k ≤ 20) (hix : k = 19 → x1 = (ix : Int) ∧ ix ≤ 10) (hm : Ans 54 #[.agg #[.int .i64 (k : Int), .int .i64 d1, .int .i64 i1, .int .i64 x1, .slice ao na ca]] true w) :
    AnsV 24 #[.agg #[.int .i64 (k : Int), .int .i64 d1, .int .i64 i1, .int .i64 x1, .slice ao na ca]] (.int .i64 (widthV k ix d1)) w := by
  intro W g
  have HM := hidM (hm.gr g)
  unfold Ans at HM
  have hbx := World.alloc_heap_new W (.cells #[.int .i64 (k : Int), .int .i64 d1, .int .i64 i1, .int .i64 x1, .slice ao na ca] 35)
  have HX := hidM hbx
  clear hm hbx
  clear g
  unfold widthV
  by_cases h19 : k = 19
  · subst h19
    obtain ⟨rfl, hix10⟩ := hix rfl
    have H57 := hidM (fun w => numberWidth_any ix (by omega) w)
    go_enter Tryd.func24, Tryd.ntmps24
    go_wp2_with (go_at_call 54; refine Hid.out ?_)
    unfold Hid
    refine Calls.mono (HM.out _ (gr_alloc W _)) ?_
    rintro e W1 ⟨rfl, hg1⟩
    have y1 := (hg1.block _ (lt_of_heap HX.out) id).trans HX.out
    obtain ⟨p0, p1, p2, p3, p4⟩ := cell5 y1
    have HG := hidM ((gr_alloc W _).trans hg1 (fun _ _ h => h))
    clear hg1 y1
    go_wp2_with (go_at_call 57; refine Calls.mono (H57.out _) ?_; rintro e w2 ⟨rfl, rfl⟩)
    go_ret
    exact ⟨by simp, HG.out⟩
  · by_cases h14 : k = 14
    · subst h14
      go_enter Tryd.func24, Tryd.ntmps24
      go_wp2_with (go_at_call 54; refine Hid.out ?_)
      unfold Hid
      refine Calls.mono (HM.out _ (gr_alloc W _)) ?_
      rintro e W1 ⟨rfl, hg1⟩
      have y1 := (hg1.block _ (lt_of_heap HX.out) id).trans HX.out
      obtain ⟨p0, p1, p2, p3, p4⟩ := cell5 y1
      have HG := hidM ((gr_alloc W _).trans hg1 (fun _ _ h => h))
      clear hg1 y1
      go_wp2_with fail
      go_ret
      exact ⟨by simp, HG.out⟩
    · have b19 := beqZ (a := (k : Int)) (b := 19) (by omega)
      have b14 := beqZ (a := (k : Int)) (b := 14) (by omega)
      have H57 := hidM (fun w => numberWidth_any k (by omega) w)
      go_enter Tryd.func24, Tryd.ntmps24
      go_wp2_with (go_at_call 54; refine Hid.out ?_)
      unfold Hid
      refine Calls.mono (HM.out _ (gr_alloc W _)) ?_
      rintro e W1 ⟨rfl, hg1⟩
      have y1 := (hg1.block _ (lt_of_heap HX.out) id).trans HX.out
      obtain ⟨p0, p1, p2, p3, p4⟩ := cell5 y1
      have HG := hidM ((gr_alloc W _).trans hg1 (fun _ _ h => h))
      clear hg1 y1
      go_wp2_with (go_at_call 57; refine Calls.mono (H57.out _) ?_; rintro e w2 ⟨rfl, rfl⟩)
      go_ret
      exact ⟨by simp, HG.out⟩
set_option maxRecDepth 100000 in
set_option maxHeartbeats 2000000 in
theorem width_false (k1 d1 i1 x1 : Int) (ao : Option Addr) (na ca : Nat) (w : World) (hm : Ans 53 #[.agg #[.int .i64 k1, .int .i64 d1, .int .i64 i1, .int .i64 x1, .slice ao na ca]] false w) : AnsV 23 #[.agg #[.int .i64 k1, .int .i64 d1, .int .i64 i1, .int .i64 x1, .slice ao na ca]] (.int .i64 0) w := by
  intro W g
  have HM := hidM (hm.gr g)
  unfold Ans at HM
  have hbx := World.alloc_heap_new W (.cells #[.int .i64 k1, .int .i64 d1, .int .i64 i1, .int .i64 x1, .slice ao na ca] 35)
  have HX := hidM hbx
  clear hm hbx
  clear g
  go_enter Tryd.func23, Tryd.ntmps23
  go_wp2_with (go_at_call 53; refine Hid.out ?_)
  unfold Hid
  refine Calls.mono (HM.out _ (gr_alloc W _)) ?_
  rintro e W1 ⟨rfl, hg1⟩
  have y1 := (hg1.block _ (lt_of_heap HX.out) id).trans HX.out
  obtain ⟨p0, p1, p2, p3, p4⟩ := cell5 y1
  have HG := hidM ((gr_alloc W _).trans hg1 (fun _ _ h => h))
  clear hg1 y1
  go_wp2_with fail
  go_ret
  exact ⟨rfl, HG.out⟩
set_option maxRecDepth 100000 in
set_option maxHeartbeats 2000000 in
theorem widthR_false (k1 d1 i1 x1 : Int) (ao : Option Addr) (na ca : Nat) (w : World) (hm : Ans 54 #[.agg #[.int .i64 k1, .int .i64 d1, .int .i64 i1, .int .i64 x1, .slice ao na ca]] false w) : AnsV 24 #[.agg #[.int .i64 k1, .int .i64 d1, .int .i64 i1, .int .i64 x1, .slice ao na ca]] (.int .i64 0) w := by
  intro W g
  have HM := hidM (hm.gr g)
  unfold Ans at HM
  have hbx := World.alloc_heap_new W (.cells #[.int .i64 k1, .int .i64 d1, .int .i64 i1, .int .i64 x1, .slice ao na ca] 35)
  have HX := hidM hbx
  clear hm hbx
  clear g
  go_enter Tryd.func24, Tryd.ntmps24
  go_wp2_with (go_at_call 54; refine Hid.out ?_)
  unfold Hid
  refine Calls.mono (HM.out _ (gr_alloc W _)) ?_
  rintro e W1 ⟨rfl, hg1⟩
  have y1 := (hg1.block _ (lt_of_heap HX.out) id).trans HX.out
  obtain ⟨p0, p1, p2, p3, p4⟩ := cell5 y1
  have HG := hidM ((gr_alloc W _).trans hg1 (fun _ _ h => h))
  clear hg1 y1
  go_wp2_with fail
  go_ret
  exact ⟨rfl, HG.out⟩
/-- buffers, children, dictionaries -/
def shapeV (k n : Nat) : Value := if k = 19 then .tuple #[.int .i64 (bufsK 19), .int .i64 0, .int .i64 1] else if k = 20 then .tuple #[.int .i64 (bufsK 20), .int .i64 2, .int .i64 0] else .tuple #[.int .i64 (bufsK k), .int .i64 n, .int .i64 0]
def shape0 : Value := .tuple #[.int .i64 (-1), .int .i64 (-1), .int .i64 (-1)]
set_option maxRecDepth 100000 in
set_option maxHeartbeats 4000000 in
theorem shape_true (k : Nat) (d1 i1 x1 : Int) (ao : Option Addr) (na ca : Nat) (w : World) (hT : Tab w) (hk : k ≤ 20) (hn : na ≤ 32) (hm : Ans 53 #[.agg #[.int .i64 (k : Int), .int .i64 d1, .int .i64 i1, .int .i64 x1, .slice ao na ca]] true w) :
    AnsV 19 #[.agg #[.int .i64 (k : Int), .int .i64 d1, .int .i64 i1, .int .i64 x1, .slice ao na ca]] (shapeV k na) w := by
  intro W g
  have HM := hidM (hm.gr g)
  unfold Ans at HM
  have hbx := World.alloc_heap_new W (.cells #[.int .i64 (k : Int), .int .i64 d1, .int .i64 i1, .int .i64 x1, .slice ao na ca] 35)
  have HX := hidM hbx
  clear hm hbx
  have HT := hidM (hT.gr g)
  clear hT g
  by_cases h19 : k = 19
  · subst h19
    go_enter Tryd.func19, Tryd.ntmps19
    go_wp2_with (go_at_call 53; refine Hid.out ?_)
    unfold Hid
    refine Calls.mono (HM.out _ (gr_alloc W _)) ?_
    rintro e W1 ⟨rfl, hg1⟩
    have y1 := (hg1.block _ (lt_of_heap HX.out) id).trans HX.out
    obtain ⟨p0, p1, p2, p3, p4⟩ := cell5 y1
    have HG := hidM ((gr_alloc W _).trans hg1 (fun _ _ h => h))
    have t2 := ((HT.out.gr HG.out).2 19 (by omega)).c2
    clear hg1 y1
    go_wp2_with fail
    go_region
    go_wp2
    refine bodyPost_ret (v := shapeV 19 na) ?_ rfl ⟨rfl, HG.out.drew⟩
    simp [results, Tryd.f19, go_sem, shapeV]
  · by_cases h20 : k = 20
    · subst h20
      go_enter Tryd.func19, Tryd.ntmps19
      go_wp2_with (go_at_call 53; refine Hid.out ?_)
      unfold Hid
      refine Calls.mono (HM.out _ (gr_alloc W _)) ?_
      rintro e W1 ⟨rfl, hg1⟩
      have y1 := (hg1.block _ (lt_of_heap HX.out) id).trans HX.out
      obtain ⟨p0, p1, p2, p3, p4⟩ := cell5 y1
      have HG := hidM ((gr_alloc W _).trans hg1 (fun _ _ h => h))
      have t2 := ((HT.out.gr HG.out).2 20 (by omega)).c2
      clear hg1 y1
      go_wp2_with fail
      go_region
      go_wp2
      refine bodyPost_ret (v := shapeV 20 na) ?_ rfl ⟨rfl, HG.out.drew⟩
      simp [results, Tryd.f19, go_sem, shapeV]
    · have b19 := beqZ (a := (k : Int)) (b := 19) (by omega)
      have b20 := beqZ (a := (k : Int)) (b := 20) (by omega)
      go_enter Tryd.func19, Tryd.ntmps19
      go_wp2_with (go_at_call 53; refine Hid.out ?_)
      unfold Hid
      refine Calls.mono (HM.out _ (gr_alloc W _)) ?_
      rintro e W1 ⟨rfl, hg1⟩
      have y1 := (hg1.block _ (lt_of_heap HX.out) id).trans HX.out
      obtain ⟨p0, p1, p2, p3, p4⟩ := cell5 y1
      have HG := hidM ((gr_alloc W _).trans hg1 (fun _ _ h => h))
      have t2 := ((HT.out.gr HG.out).2 k (by omega)).c2
      have hi : (k : Int) < 21 := by omega
      clear hg1 y1
      go_wp2_with fail
      go_region
      go_wp2
      refine bodyPost_ret (v := shapeV k na) ?_ rfl ⟨rfl, HG.out.drew⟩
      simp [results, Tryd.f19, go_sem, shapeV, h19, h20]
set_option maxRecDepth 100000 in
set_option maxHeartbeats 8000000 in
theorem shapeR_true (k : Nat) (d1 i1 x1 : Int) (ao : Option Addr) (na ca : Nat) (w : World) (hk : k ≤ 20) (hk1 : 1 ≤ k) (hn : na ≤ 32) (hl : leastK k ≤ (na : Int)) (hmo : (na : Int) ≤ mostK k) (hm : Ans 54 #[.agg #[.int .i64 (k : Int), .int .i64 d1, .int .i64 i1, .int .i64 x1, .slice ao na ca]] true w) :
    AnsV 20 #[.agg #[.int .i64 (k : Int), .int .i64 d1, .int .i64 i1, .int .i64 x1, .slice ao na ca]] (shapeV k na) w := by
  intro W g
  have HM := hidM (hm.gr g)
  unfold Ans at HM
  have hbx := World.alloc_heap_new W (.cells #[.int .i64 (k : Int), .int .i64 d1, .int .i64 i1, .int .i64 x1, .slice ao na ca] 35)
  have HX := hidM hbx
  clear hm hbx
  clear g
  have : k = 1 ∨ k = 2 ∨ k = 3 ∨ k = 4 ∨ k = 5 ∨ k = 6 ∨ k = 7 ∨ k = 8 ∨ k = 9 ∨ k = 10 ∨ k = 11 ∨ k = 12 ∨ k = 13 ∨ k = 14 ∨ k = 15 ∨ k = 16 ∨ k = 17 ∨ k = 18 ∨ k = 19 ∨ k = 20 := by omega
  rcases this with rfl | rfl | rfl | rfl | rfl | rfl | rfl | rfl | rfl | rfl | rfl | rfl | rfl | rfl | rfl | rfl | rfl | rfl | rfl | rfl
  all_goals
    simp only [leastK, mostK] at hl hmo
    go_enter Tryd.func20, Tryd.ntmps20
    go_wp2_with (go_at_call 54; refine Hid.out ?_)
    unfold Hid
    refine Calls.mono (HM.out _ (gr_alloc W _)) ?_
    rintro e W1 ⟨rfl, hg1⟩
    have y1 := (hg1.block _ (lt_of_heap HX.out) id).trans HX.out
    obtain ⟨p0, p1, p2, p3, p4⟩ := cell5 y1
    have HG := hidM ((gr_alloc W _).trans hg1 (fun _ _ h => h))
    clear hg1 y1
    go_wp2_with fail
    first
      | (refine bodyPost_ret (v := shapeV _ na) ?_ rfl ⟨rfl, HG.out⟩
         first
           | (simp [results, Tryd.f20, go_sem, shapeV, bufsK]; done)
           | (obtain rfl : na = 0 := by omega
              simp [results, Tryd.f20, go_sem, shapeV, bufsK]; done)
           | (obtain rfl : na = 1 := by omega
              simp [results, Tryd.f20, go_sem, shapeV, bufsK]; done))
      | (go_region
         go_wp2
         refine bodyPost_ret (v := shapeV _ na) ?_ rfl ⟨rfl, HG.out.drew⟩
         simp [results, Tryd.f20, go_sem, shapeV, bufsK]; done)
set_option maxRecDepth 100000 in
set_option maxHeartbeats 2000000 in
theorem shape_false (k1 d1 i1 x1 : Int) (ao : Option Addr) (na ca : Nat) (w : World) (hm : Ans 53 #[.agg #[.int .i64 k1, .int .i64 d1, .int .i64 i1, .int .i64 x1, .slice ao na ca]] false w) : AnsV 19 #[.agg #[.int .i64 k1, .int .i64 d1, .int .i64 i1, .int .i64 x1, .slice ao na ca]] shape0 w := by
  intro W g
  have HM := hidM (hm.gr g)
  unfold Ans at HM
  have hbx := World.alloc_heap_new W (.cells #[.int .i64 k1, .int .i64 d1, .int .i64 i1, .int .i64 x1, .slice ao na ca] 35)
  have HX := hidM hbx
  clear hm hbx
  clear g
  go_enter Tryd.func19, Tryd.ntmps19
  go_wp2_with (go_at_call 53; refine Hid.out ?_)
  unfold Hid
  refine Calls.mono (HM.out _ (gr_alloc W _)) ?_
  rintro e W1 ⟨rfl, hg1⟩
  have y1 := (hg1.block _ (lt_of_heap HX.out) id).trans HX.out
  obtain ⟨p0, p1, p2, p3, p4⟩ := cell5 y1
  have HG := hidM ((gr_alloc W _).trans hg1 (fun _ _ h => h))
  clear hg1 y1
  go_wp2_with fail
  refine bodyPost_ret (v := shape0) ?_ rfl ⟨rfl, HG.out⟩
  simp [results, Tryd.f19, go_sem, shape0]
set_option maxRecDepth 100000 in
set_option maxHeartbeats 2000000 in
theorem shapeR_false (k1 d1 i1 x1 : Int) (ao : Option Addr) (na ca : Nat) (w : World) (hm : Ans 54 #[.agg #[.int .i64 k1, .int .i64 d1, .int .i64 i1, .int .i64 x1, .slice ao na ca]] false w) : AnsV 20 #[.agg #[.int .i64 k1, .int .i64 d1, .int .i64 i1, .int .i64 x1, .slice ao na ca]] shape0 w := by
  intro W g
  have HM := hidM (hm.gr g)
  unfold Ans at HM
  have hbx := World.alloc_heap_new W (.cells #[.int .i64 k1, .int .i64 d1, .int .i64 i1, .int .i64 x1, .slice ao na ca] 35)
  have HX := hidM hbx
  clear hm hbx
  clear g
  go_enter Tryd.func20, Tryd.ntmps20
  go_wp2_with (go_at_call 54; refine Hid.out ?_)
  unfold Hid
  refine Calls.mono (HM.out _ (gr_alloc W _)) ?_
  rintro e W1 ⟨rfl, hg1⟩
  have y1 := (hg1.block _ (lt_of_heap HX.out) id).trans HX.out
  obtain ⟨p0, p1, p2, p3, p4⟩ := cell5 y1
  have HG := hidM ((gr_alloc W _).trans hg1 (fun _ _ h => h))
  clear hg1 y1
  go_wp2_with fail
  refine bodyPost_ret (v := shape0) ?_ rfl ⟨rfl, HG.out⟩
  simp [results, Tryd.f20, go_sem, shape0]
end Go.Proofs.YtffmppnlddphaaaDoor.Kit
namespace Go.Proofs.YtffmppnlddphaaaDoor.Kit
open Go.RowKit Go.Shelf Go.Deep
set_option linter.unusedVariables false
attribute [local go_sem] run_store_func

/-! ### parts -/
def endsFT : FT := ⟨⟨#[101, 110, 100, 115]⟩, false, 5, 0, 0, 0, []⟩
def partsL (z : Bool) (f : FT) : List FT := if z = false ∨ f.kind = 19 then [] else if f.kind = 20 then [endsFT, f.kids[0]!] else f.kids
def PartsQ (W : World) (D : Nat) (l : List FT) (e : Ending) (w' : World) : Prop := ∃ vo vc, e = .returned (.slice vo l.length vc) ∧ Gr W w' ∧ l.length ≤ vc ∧ RowAt (fun b => b < w'.heap.size) w' D vo l
theorem partsQ_none {W w' : World} {D : Nat} (g : Gr W w') : PartsQ W D [] (.returned (.slice none 0 0)) w' := ⟨none, 0, rfl, g, Nat.le_refl _, row_none _ _ _ _⟩
/-- the two of a Runs -/
theorem partsQ_two {W w' : World} {d b : Nat} {h : FT} {ho : Option Addr} {hc : Nat} (g : Gr W w') (hb : w'.heap[b]? = some (.cells #[.string ⟨#[101, 110, 100, 115]⟩, .bool false, .int .i64 5, .int .i64 0, .int .i64 0, .int .i64 0, .slice none 0 0, .string h.name, .bool h.nul, .int .i64 h.kind, .int .i64 h.width, .int .i64 h.id, .int .i64 h.index, .slice ho h.kids.length hc] 37)) (hr : RowAt (fun b => b < w'.heap.size) w' d ho h.kids) (hle : h.kids.length ≤ hc) :
    PartsQ W (d + 1) [endsFT, h] (.returned (.slice (some ⟨b, 0, none⟩) 2 2)) w' := by
  refine ⟨some ⟨b, 0, none⟩, 2, rfl, g, by simp, by simp [big], fun _ => ⟨b, 0, rfl, lt_of_heap hb, fun i hi => ?_⟩⟩
  have hi2 : i = 0 ∨ i = 1 := by simp at hi; omega
  rcases hi2 with rfl | rfl
  · exact ⟨none, 0, ⟨by simp [World.cell?, hb, endsFT, FT.name], by simp [World.cell?, hb, endsFT, FT.nul], by simp [World.cell?, hb, endsFT, FT.kind], by simp [World.cell?, hb, endsFT, FT.width], by simp [World.cell?, hb, endsFT, FT.id], by simp [World.cell?, hb, endsFT, FT.index], by simp [World.cell?, hb, endsFT, FT.kids]⟩, by simp [endsFT, FT.kids], row_none _ _ _ _⟩
  · exact ⟨ho, hc, ⟨by simp [World.cell?, hb], by simp [World.cell?, hb], by simp [World.cell?, hb], by simp [World.cell?, hb], by simp [World.cell?, hb], by simp [World.cell?, hb], by simp [World.cell?, hb]⟩, hle, hr⟩
set_option maxRecDepth 100000 in
set_option maxHeartbeats 2000000 in
theorem ends_any (w : World) : Calls Tryd.prog 59 #[] w fun e w' => e = .returned (.agg #[.string ⟨#[101, 110, 100, 115]⟩, .bool false, .int .i64 5, .int .i64 0, .int .i64 0, .int .i64 0, .slice none 0 0]) ∧ Gr w w' := by
  go_enter Tryd.func59, Tryd.ntmps59
  go_wp2
  have x2 := World.alloc_heap_new w (.cells #[.string ⟨#[101, 110, 100, 115]⟩, .bool false, .int .i64 5, .int .i64 0, .int .i64 0, .int .i64 0, .slice none 0 0] 37)
  have hg := gr_alloc w (.cells #[.string ⟨#[101, 110, 100, 115]⟩, .bool false, .int .i64 5, .int .i64 0, .int .i64 0, .int .i64 0, .slice none 0 0] 37)
  generalize w.alloc (.cells #[.string ⟨#[101, 110, 100, 115]⟩, .bool false, .int .i64 5, .int .i64 0, .int .i64 0, .int .i64 0, .slice none 0 0] 37) = W5 at *
  obtain ⟨v0, v1, v2, v3, v4, v5, v6⟩ := cell7 x2
  simp only [Nat.zero_add] at v1 v2 v3 v4 v5 v6
  refine bodyPost_ret (v := .agg #[.string ⟨#[101, 110, 100, 115]⟩, .bool false, .int .i64 5, .int .i64 0, .int .i64 0, .int .i64 0, .slice none 0 0]) ?_ rfl ⟨rfl, hg⟩
  simp [results, Tryd.f59, go_sem, v0, v1, v2, v3, v4, v5, v6]
/-- the only child of a Runs -/
theorem runs_kid {S : Nat → Prop} {W : World} {d : Nat} {ao : Option Addr} {l : List FT} (h : RowAt S W d ao l) (h1 : l.length = 1) : ∃ d' b o hd ho hc, d = d' + 1 ∧ l = [hd] ∧ ao = some ⟨b, o, none⟩ ∧ CellsAt W b o hd ho hc ∧ hd.kids.length ≤ hc ∧ RowAt S W d' ho hd.kids := by
  obtain ⟨hd, rfl⟩ := List.length_eq_one_iff.1 h1
  cases d with
  | zero => have h' : [hd] = [] := h; cases h'
  | succ d =>
    obtain ⟨b, o, e, _, hc⟩ := h.2 (by simp)
    obtain ⟨ho, hcc, c1, c2, c3⟩ := hc 0 (by simp)
    exact ⟨d, b, o, hd, ho, hcc, rfl, rfl, e, by simpa using c1, c2, c3⟩
set_option maxRecDepth 100000 in
set_option maxHeartbeats 4000000 in
theorem parts_gen {S : Nat → Prop} {d : Nat} {f : FT} {ao : Option Addr} {ca : Nat} {w : World} {z : Bool} (h : Fld S w d f ao ca) (hS : ∀ b, S b → b < w.heap.size) (hr1 : z = true → f.kind = 20 → f.kids.length = 1) (hm : Ans 53 #[.agg #[.int .i64 f.kind, .int .i64 f.width, .int .i64 f.id, .int .i64 f.index, .slice ao f.kids.length ca]] z w) :
    ∀ W, Gr w W → Calls Tryd.prog 25 #[.agg #[.int .i64 f.kind, .int .i64 f.width, .int .i64 f.id, .int .i64 f.index, .slice ao f.kids.length ca]] W (PartsQ W d (partsL z f)) := by
  intro W g
  have HM := hidM (hm.gr g)
  unfold Ans at HM
  have HF := hidM (h.gr hS g)
  have HS : Hid (∀ b, S b → b < W.heap.size) := fun b hb => by have := hS b hb; have := g.size; omega
  have hbx := World.alloc_heap_new W (.cells #[.int .i64 f.kind, .int .i64 f.width, .int .i64 f.id, .int .i64 f.index, .slice ao f.kids.length ca] 35)
  have HX := hidM hbx
  clear hm hbx h hS g
  obtain ⟨P, hP⟩ : ∃ P, P = partsL z f := ⟨_, rfl⟩
  rw [← hP]
  unfold partsL at hP
  have HP := hidM hP
  have HR1 := hidM hr1
  clear hP hr1
  have hl : f.kids.length ≤ 1000000000000 := HF.out.row.len
  cases z with
  | false =>
    have hP0 : P = [] := by rw [HP.out]; simp
    subst hP0
    go_enter Tryd.func25, Tryd.ntmps25
    go_wp2_with (go_at_call 53; refine Hid.out ?_)
    unfold Hid
    refine Calls.mono (HM.out _ (gr_alloc W _)) ?_
    rintro e W1 ⟨rfl, hg1⟩
    have y1 := (hg1.block _ (lt_of_heap HX.out) id).trans HX.out
    obtain ⟨p0, p1, p2, p3, p4⟩ := cell5 y1
    have HY := hidM y1
    have HG := hidM ((gr_alloc W _).trans hg1 (fun _ _ h => h))
    clear hg1 y1
    go_wp2_with fail
    go_ret
    exact partsQ_none HG.out
  | true =>
    by_cases h19 : f.kind = 19
    · have hP0 : P = [] := by rw [HP.out]; simp [h19]
      subst hP0
      have H19 := hidM h19
      clear h19
      go_enter Tryd.func25, Tryd.ntmps25
      go_wp2_with (go_at_call 53; refine Hid.out ?_)
      unfold Hid
      refine Calls.mono (HM.out _ (gr_alloc W _)) ?_
      rintro e W1 ⟨rfl, hg1⟩
      have y1 := (hg1.block _ (lt_of_heap HX.out) id).trans HX.out
      obtain ⟨p0, p1, p2, p3, p4⟩ := cell5 y1
      have HY := hidM y1
      have HG := hidM ((gr_alloc W _).trans hg1 (fun _ _ h => h))
      rw [H19.out] at p0
      clear hg1 y1
      go_wp2_with fail
      go_ret
      exact partsQ_none HG.out
    · have b19 := beqZ h19
      go_enter Tryd.func25, Tryd.ntmps25
      go_wp2_with (go_at_call 53; refine Hid.out ?_)
      unfold Hid
      refine Calls.mono (HM.out _ (gr_alloc W _)) ?_
      rintro e W1 ⟨rfl, hg1⟩
      have y1 := (hg1.block _ (lt_of_heap HX.out) id).trans HX.out
      obtain ⟨p0, p1, p2, p3, p4⟩ := cell5 y1
      have HY := hidM y1
      have HG := hidM ((gr_alloc W _).trans hg1 (fun _ _ h => h))
      have HFW : Hid (Fld S W1 d f ao ca) := HF.out.gr HS.out HG.out
      have H58 := hidM (copied_any d S W1 ao ca f.kids HFW.out.row (fun b hb => by have := HS.out b hb; have := HG.out.size; omega))
      clear hg1 y1
      go_wp2_with (go_at_call 58; refine Hid.out ?_)
      unfold Hid
      refine Calls.mono H58.out ?_
      rintro e W2 ⟨vo, vc, rfl, hq⟩
      have p0' := hq.g.cell' p0 id
      have HG2 := hidM (HG.out.trans hq.g (fun _ _ h => h))
      have HQ := hidM hq
      clear hq p0 p1 p2 p3 p4 H58
      by_cases h20 : f.kind = 20
      · have h1 := HR1.out (by trivial) h20
        obtain ⟨d', b, o, hd, ho, hc, rfl, hkl, rfl, c, hle, hrow⟩ := runs_kid HQ.out.row h1
        have hP2 : P = [endsFT, hd] := by rw [HP.out]; simp [h20, hkl]
        subst hP2
        rw [h20] at p0'
        rw [h1]
        obtain ⟨c0, c1, c2, c3, c4, c5, c6⟩ := c
        have c0' := fun (o1 : Obj) => (gr_alloc W2 o1).cell' c0 id
        have c1' := fun (o1 : Obj) => (gr_alloc W2 o1).cell' c1 id
        have c2' := fun (o1 : Obj) => (gr_alloc W2 o1).cell' c2 id
        have c3' := fun (o1 : Obj) => (gr_alloc W2 o1).cell' c3 id
        have c4' := fun (o1 : Obj) => (gr_alloc W2 o1).cell' c4 id
        have c5' := fun (o1 : Obj) => (gr_alloc W2 o1).cell' c5 id
        have c6' := fun (o1 : Obj) => (gr_alloc W2 o1).cell' c6 id
        have HRow := hidM (And.intro hle hrow)
        clear b19 h19 h20 h1 hkl hle hrow c0 c1 c2 c3 c4 c5 c6
        go_wp2_with fail
        go_region
        go_wp2
        go_ret
        have hfin := b2t_new W2 #[.string ⟨#[101, 110, 100, 115]⟩, .bool false, .int .i64 5, .int .i64 0, .int .i64 0, .int .i64 0, .slice none 0 0] #[.string ⟨#[101, 110, 100, 115]⟩, .bool false, .int .i64 5, .int .i64 0, .int .i64 0, .int .i64 0, .slice none 0 0, .string hd.name, .bool hd.nul, .int .i64 hd.kind, .int .i64 hd.width, .int .i64 hd.id, .int .i64 hd.index, .slice ho hd.kids.length hc] 37
        have hfg : Gr W2 ((W2.alloc (.cells #[.string ⟨#[101, 110, 100, 115]⟩, .bool false, .int .i64 5, .int .i64 0, .int .i64 0, .int .i64 0, .slice none 0 0] 37)).alloc (.cells #[.string ⟨#[101, 110, 100, 115]⟩, .bool false, .int .i64 5, .int .i64 0, .int .i64 0, .int .i64 0, .slice none 0 0, .string hd.name, .bool hd.nul, .int .i64 hd.kind, .int .i64 hd.width, .int .i64 hd.id, .int .i64 hd.index, .slice ho hd.kids.length hc] 37)).drew := hfin.g.drew
        refine partsQ_two (h := hd) (ho := ho) (hc := hc) (HG2.out.trans hfg (fun _ _ h => h)) hfin.b1 ((HRow.out.2.kept fun b hb => hfg.block b hb.2 id).mono fun b hb => ?_) HRow.out.1
        have := hfg.size
        have := hb.2
        omega
      · have b20 := beqZ h20
        have hPk : P = f.kids := by rw [HP.out]; simp [h19, h20]
        subst hPk
        go_wp2_with fail
        go_ret
        exact ⟨vo, vc, rfl, HG2.out, HQ.out.le, HQ.out.row.mono fun b hb => hb.2⟩
structure PB (W V : World) (X b o : Nat) (hd : FT) (ho : Option Addr) (hc ca : Nat) : Prop where
  g : Gr W V
  x : V.cell? ⟨X, 4, none⟩ = some (.slice (some ⟨b, o, none⟩) 1 ca)
  c : CellsAt V b o hd ho hc
theorem pb_of {W V : World} {X b o ca hc : Nat} {hd : FT} {ho : Option Addr} (h : PB W V X b o hd ho hc ca) : Hid (PB W V X b o hd ho hc ca) ∧ V.cell? ⟨X, 4, none⟩ = some (.slice (some ⟨b, o, none⟩) 1 ca) ∧ V.cell? ⟨b, o, none⟩ = some (.string hd.name) ∧ V.cell? ⟨b, o + 1, none⟩ = some (.bool hd.nul) ∧ V.cell? ⟨b, o + 2, none⟩ = some (.int .i64 hd.kind) ∧ V.cell? ⟨b, o + 3, none⟩ = some (.int .i64 hd.width) ∧ V.cell? ⟨b, o + 4, none⟩ = some (.int .i64 hd.id) ∧ V.cell? ⟨b, o + 5, none⟩ = some (.int .i64 hd.index) ∧ V.cell? ⟨b, o + 6, none⟩ = some (.slice ho hd.kids.length hc) := ⟨h, h.x, h.c.c0, h.c.c1, h.c.c2, h.c.c3, h.c.c4, h.c.c5, h.c.c6⟩
theorem PB.gr {W V : World} {X b o ca hc : Nat} {hd : FT} {ho : Option Addr} (h : PB W V X b o hd ho hc ca) {V' : World} (k : Gr V V') : PB W V' X b o hd ho hc ca := ⟨h.g.trans k (fun _ _ h => h), k.cell' h.x id, h.c.kept (k.block _ (block_lt_of_cell h.c.c0) id)⟩
theorem pb_kept {W V : World} {X b o ca hc : Nat} {hd : FT} {ho : Option Addr} {V' : World} (h : Hid (PB W V X b o hd ho hc ca) ∧ V.cell? ⟨X, 4, none⟩ = some (.slice (some ⟨b, o, none⟩) 1 ca) ∧ V.cell? ⟨b, o, none⟩ = some (.string hd.name) ∧ V.cell? ⟨b, o + 1, none⟩ = some (.bool hd.nul) ∧ V.cell? ⟨b, o + 2, none⟩ = some (.int .i64 hd.kind) ∧ V.cell? ⟨b, o + 3, none⟩ = some (.int .i64 hd.width) ∧ V.cell? ⟨b, o + 4, none⟩ = some (.int .i64 hd.id) ∧ V.cell? ⟨b, o + 5, none⟩ = some (.int .i64 hd.index) ∧ V.cell? ⟨b, o + 6, none⟩ = some (.slice ho hd.kids.length hc)) (k : Hid (Gr V V')) : Hid (PB W V' X b o hd ho hc ca) ∧ V'.cell? ⟨X, 4, none⟩ = some (.slice (some ⟨b, o, none⟩) 1 ca) ∧ V'.cell? ⟨b, o, none⟩ = some (.string hd.name) ∧ V'.cell? ⟨b, o + 1, none⟩ = some (.bool hd.nul) ∧ V'.cell? ⟨b, o + 2, none⟩ = some (.int .i64 hd.kind) ∧ V'.cell? ⟨b, o + 3, none⟩ = some (.int .i64 hd.width) ∧ V'.cell? ⟨b, o + 4, none⟩ = some (.int .i64 hd.id) ∧ V'.cell? ⟨b, o + 5, none⟩ = some (.int .i64 hd.index) ∧ V'.cell? ⟨b, o + 6, none⟩ = some (.slice ho hd.kids.length hc) := pb_of (h.1.out.gr k.out)
set_option maxRecDepth 100000 in
set_option maxHeartbeats 4000000 in
theorem partsR_gen {S : Nat → Prop} {d : Nat} {f : FT} {ao : Option Addr} {ca : Nat} {w : World} {z : Bool} (h : Fld S w d f ao ca) (hS : ∀ b, S b → b < w.heap.size) (hr1 : z = true → f.kind = 20 → f.kids.length = 1) (hm : Ans 54 #[.agg #[.int .i64 f.kind, .int .i64 f.width, .int .i64 f.id, .int .i64 f.index, .slice ao f.kids.length ca]] z w) :
    ∀ W, Gr w W → Calls Tryd.prog 26 #[.agg #[.int .i64 f.kind, .int .i64 f.width, .int .i64 f.id, .int .i64 f.index, .slice ao f.kids.length ca]] W (PartsQ W d (partsL z f)) := by
  intro W g
  have HM := hidM (hm.gr g)
  unfold Ans at HM
  have HF := hidM (h.gr hS g)
  have HS : Hid (∀ b, S b → b < W.heap.size) := fun b hb => by have := hS b hb; have := g.size; omega
  have hbx := World.alloc_heap_new W (.cells #[.int .i64 f.kind, .int .i64 f.width, .int .i64 f.id, .int .i64 f.index, .slice ao f.kids.length ca] 35)
  have HX := hidM hbx
  clear hm hbx h hS g
  obtain ⟨P, hP⟩ : ∃ P, P = partsL z f := ⟨_, rfl⟩
  rw [← hP]
  unfold partsL at hP
  have HP := hidM hP
  have HR1 := hidM hr1
  clear hP hr1
  have hl : f.kids.length ≤ 1000000000000 := HF.out.row.len
  cases z with
  | false =>
    have hP0 : P = [] := by rw [HP.out]; simp
    subst hP0
    go_enter Tryd.func26, Tryd.ntmps26
    go_wp2_with (go_at_call 54; refine Hid.out ?_)
    unfold Hid
    refine Calls.mono (HM.out _ (gr_alloc W _)) ?_
    rintro e W1 ⟨rfl, hg1⟩
    have y1 := (hg1.block _ (lt_of_heap HX.out) id).trans HX.out
    obtain ⟨p0, p1, p2, p3, p4⟩ := cell5 y1
    have HY := hidM y1
    have HG := hidM ((gr_alloc W _).trans hg1 (fun _ _ h => h))
    clear hg1 y1
    go_wp2_with fail
    go_ret
    exact partsQ_none HG.out
  | true =>
    by_cases h19 : f.kind = 19
    · have hP0 : P = [] := by rw [HP.out]; simp [h19]
      subst hP0
      have H19 := hidM h19
      clear h19
      go_enter Tryd.func26, Tryd.ntmps26
      go_wp2_with (go_at_call 54; refine Hid.out ?_)
      unfold Hid
      refine Calls.mono (HM.out _ (gr_alloc W _)) ?_
      rintro e W1 ⟨rfl, hg1⟩
      have y1 := (hg1.block _ (lt_of_heap HX.out) id).trans HX.out
      obtain ⟨p0, p1, p2, p3, p4⟩ := cell5 y1
      have HY := hidM y1
      have HG := hidM ((gr_alloc W _).trans hg1 (fun _ _ h => h))
      rw [H19.out] at p0
      clear hg1 y1
      go_wp2_with fail
      go_ret
      exact partsQ_none HG.out
    · have b19 := beqZ h19
      go_enter Tryd.func26, Tryd.ntmps26
      go_wp2_with (go_at_call 54; refine Hid.out ?_)
      unfold Hid
      refine Calls.mono (HM.out _ (gr_alloc W _)) ?_
      rintro e W1 ⟨rfl, hg1⟩
      have y1 := (hg1.block _ (lt_of_heap HX.out) id).trans HX.out
      obtain ⟨p0, p1, p2, p3, p4⟩ := cell5 y1
      have HY := hidM y1
      have HG := hidM ((gr_alloc W _).trans hg1 (fun _ _ h => h))
      have HFW : Hid (Fld S W1 d f ao ca) := HF.out.gr HS.out HG.out
      have HS1 : Hid (∀ b, S b → b < W1.heap.size) := fun b hb => by have := HS.out b hb; have := HG.out.size; omega
      clear hg1 y1 p1 p2 p3
      by_cases h20 : f.kind = 20
      · have h1 := HR1.out (by trivial) h20
        obtain ⟨d', b, o, hd, ho, hc, rfl, hkl, rfl, c, hle, hrow⟩ := runs_kid HFW.out.row h1
        have hP2 : P = [endsFT, hd] := by rw [HP.out]; simp [h20, hkl]
        subst hP2
        rw [h20] at p0
        rw [h1] at p4
        obtain ⟨X, hX⟩ : ∃ X, X = W.heap.size := ⟨_, rfl⟩
        rw [← hX] at p0 p4
        have HPB : Hid (PB W W1 X b o hd ho hc ca) := ⟨HG.out, p4, c⟩
        have HRow := hidM (And.intro hle hrow)
        have H1 := hidM h1
        clear b19 h19 h20 h1 hkl hle hrow c
        rw [← hX]
        clear hX
        go_wp2_with fail
        have HIN : Hid (Hid (PB W W1.drew X b o hd ho hc ca) ∧ W1.drew.cell? ⟨X, 4, none⟩ = some (.slice (some ⟨b, o, none⟩) 1 ca) ∧ W1.drew.cell? ⟨b, o, none⟩ = some (.string hd.name) ∧ W1.drew.cell? ⟨b, o + 1, none⟩ = some (.bool hd.nul) ∧ W1.drew.cell? ⟨b, o + 2, none⟩ = some (.int .i64 hd.kind) ∧ W1.drew.cell? ⟨b, o + 3, none⟩ = some (.int .i64 hd.width) ∧ W1.drew.cell? ⟨b, o + 4, none⟩ = some (.int .i64 hd.id) ∧ W1.drew.cell? ⟨b, o + 5, none⟩ = some (.int .i64 hd.index) ∧ W1.drew.cell? ⟨b, o + 6, none⟩ = some (.slice ho hd.kids.length hc)) := pb_of (HPB.out.gr gr_drew)
        go_region_held3 (fun w' => Hid (PB W w' X b o hd ho hc ca) ∧ w'.cell? ⟨X, 4, none⟩ = some (.slice (some ⟨b, o, none⟩) 1 ca) ∧ w'.cell? ⟨b, o, none⟩ = some (.string hd.name) ∧ w'.cell? ⟨b, o + 1, none⟩ = some (.bool hd.nul) ∧ w'.cell? ⟨b, o + 2, none⟩ = some (.int .i64 hd.kind) ∧ w'.cell? ⟨b, o + 3, none⟩ = some (.int .i64 hd.width) ∧ w'.cell? ⟨b, o + 4, none⟩ = some (.int .i64 hd.id) ∧ w'.cell? ⟨b, o + 5, none⟩ = some (.int .i64 hd.index) ∧ w'.cell? ⟨b, o + 6, none⟩ = some (.slice ho hd.kids.length hc)) (first | with_reducible exact HIN.out | with_reducible assumption | with_reducible exact pb_kept (by assumption) hk1 | exact pb_kept (by assumption) (hidM (gr_alloc _ _)))
          (first | (go_at_call 59; refine Calls.mono (ends_any _) ?_; rintro e v1 ⟨rfl, hk1⟩; replace hk1 := hidM hk1))
        all_goals
          rename_i hHeld
          have HE := hidM hHeld.1.out.g
          clear hHeld HIN
          go_wp2
          go_ret
          have hnew := World.alloc_heap_new v1 (.cells #[.string ⟨#[101, 110, 100, 115]⟩, .bool false, .int .i64 5, .int .i64 0, .int .i64 0, .int .i64 0, .slice none 0 0, .string hd.name, .bool hd.nul, .int .i64 hd.kind, .int .i64 hd.width, .int .i64 hd.id, .int .i64 hd.index, .slice ho hd.kids.length hc] 37)
          have hgv : Gr W1 (v1.alloc (.cells #[.string ⟨#[101, 110, 100, 115]⟩, .bool false, .int .i64 5, .int .i64 0, .int .i64 0, .int .i64 0, .slice none 0 0, .string hd.name, .bool hd.nul, .int .i64 hd.kind, .int .i64 hd.width, .int .i64 hd.id, .int .i64 hd.index, .slice ho hd.kids.length hc] 37)) := (gr_drew.trans hk1.out (fun _ _ h => h)).alloc _
          refine partsQ_two (h := hd) (ho := ho) (hc := hc) HE.out hnew ((HRow.out.2.kept fun b hb => hgv.block b (HS1.out b hb) id).mono fun b hb => ?_) HRow.out.1
          have := hgv.size
          have := HS1.out b hb
          omega
      · have b20 := beqZ h20
        have hPk : P = f.kids := by rw [HP.out]; simp [h19, h20]
        subst hPk
        go_wp2_with fail
        go_ret
        exact ⟨ao, ca, rfl, HG.out, HFW.out.le, HFW.out.row.mono fun b hb => HS1.out b hb⟩
end Go.Proofs.YtffmppnlddphaaaDoor.Kit
