import Derived.Test.YtfepbpibhcfjdaaDoorND
import Derived.Test.YtfepbpibhcfjdaaDoorMF
import Derived.Test.YtfepbpibhcfjdaaDoorLR
namespace Go.Proofs.YtfepbpibhcfjdaaDoor.Kit
open Go.RowKit Go.Shelf Go.Deep
set_option linter.unusedVariables false
attribute [local go_sem] run_store_func

/-! ### ways of nodes lead to them -/
theorem node_way : ∀ (d : Nat) (l : List FT) (path : List Nat) (inD : Bool) (x : LS), x ∈ nodes d l path inD → ∃ r : List Nat, x.path = path ++ r ∧ r ≠ [] ∧ ∀ cur, atGo cur l (r.map fun (n : Nat) => (n : Int)) = some x.fld
  | 0, _, _, _, _, h => by simp [nodes] at h
  | d + 1, l, path, inD, x, h => by
    rw [nodes] at h
    obtain ⟨i, hi, hx⟩ := List.mem_flatMap.1 h
    have hil : i < l.length := List.mem_range.1 hi
    have hb : l[i]! = l[i] := getElem!_pos l i hil
    rcases List.mem_cons.1 hx with rfl | hx
    · refine ⟨[i], rfl, by simp, fun cur => ?_⟩
      have hf : LS.fld ⟨l, path ++ [i], inD⟩ = l[i] := by
        have hid : LS.idx ⟨l, path ++ [i], inD⟩ = i := by simp [LS.idx]
        unfold LS.fld
        rw [hid]
        simp [hil]
      rw [hf]
      simp [atGo, hil]
    · obtain ⟨r, h1, h2, h3⟩ := node_way d _ _ _ x hx
      refine ⟨i :: r, by rw [h1]; simp, by simp, fun cur => ?_⟩
      rw [List.map_cons, atGo, if_pos (by omega)]
      have e : ((i : Nat) : Int).toNat = i := by simp
      rw [e]
      exact h3 _
theorem node_at {D : Nat} {fs : List FT} {x : LS} (h : x ∈ nodes D fs [] false) : atR 0 fs (x.path.map fun (n : Nat) => (n : Int)) = (0, x.fld) := by
  obtain ⟨r, h1, h2, h3⟩ := node_way D fs [] false x h
  rw [List.nil_append] at h1
  rw [h1]
  have : (r.map fun (n : Nat) => (n : Int)) ≠ [] := by simpa using h2
  simp [atR, h2, h3]
theorem atR_bad {er : Int} {fs : List FT} {path : List Int} (h : (atR er fs path).1 ≠ 0) : (atR er fs path).2 = zFT := by
  unfold atR at *
  split
  · rfl
  · split
    · rfl
    · rename_i h1 h2
      rw [if_neg h1, if_neg h2] at h
      revert h
      cases atGo zFT fs path with
      | none => intro _; rfl
      | some f => intro h; exact absurd rfl h
theorem zs_of_ints {W : World} {ao : Option Addr} {l : List Nat} (h : IntsAt W ao l) : ZsAt W ao (l.map fun (n : Nat) => (n : Int)) := fun hn => by
  obtain ⟨b, o, e, hc⟩ := h (fun e => hn (by rw [e]; rfl))
  refine ⟨b, o, e, fun j hj => ?_⟩
  have hj' : j < l.length := by simpa using hj
  simpa using hc j hj'
/-- ways in memory -/
def WaysAt (W : World) (wo : Option Addr) (l : List (List Int)) : Prop := l ≠ [] → ∃ b o, wo = some ⟨b, o, none⟩ ∧ ∀ i (h : i < l.length), ∃ po pc, W.cell? ⟨b, o + i, none⟩ = some (.slice po l[i].length pc) ∧ l[i].length ≤ big ∧ ZsAt W po l[i]
/-- the same field in two places -/
theorem eq_self {W : World} {D E : Nat} {S T : Nat → Prop} {f : FT} {fo eo : Option Addr} {fc ec : Nat} (h1 : RowAt S W D fo f.kids) (h2 : RowAt T W E eo f.kids) (h3 : f.kids.length ≤ fc) (h4 : f.kids.length ≤ ec) (hS : ∀ b, S b → b < W.heap.size) (hT : ∀ b, T b → b < W.heap.size) :
    Ans 16 #[.agg #[.string f.name, .bool f.nul, .int .i64 f.kind, .int .i64 f.width, .int .i64 f.id, .int .i64 f.index, .slice fo f.kids.length fc], .agg #[.string f.name, .bool f.nul, .int .i64 f.kind, .int .i64 f.width, .int .i64 f.id, .int .i64 f.index, .slice eo f.kids.length ec]] true W := by
  have := eqField_any (fun b => b < W.heap.size) (D + E) W f f fo eo fc ec ((h1.le (by omega)).mono hS) ((h2.le (by omega)).mono hT) h3 h4 (fun _ h => h)
  rw [sameFd_refl] at this
  exact this

end Go.Proofs.YtfepbpibhcfjdaaDoor.Kit
namespace Go.Proofs.YtfepbpibhcfjdaaDoor.kindR
open Go.ChangeShapes Go.WideShapes Go.ChangeAt Go.RowKit Go.Deep
open Go.Proofs.YtfepbpibhcfjdaaDoor
set_option linter.unusedVariables false
theorem cells30 : Tryd.prog.cellsOf 39 = 1 := by kernel_rfl

set_option maxRecDepth 100000 in
/-- one schema, read -/
theorem sch_at' {H : Type} {enc : TypeId × Value → H} {W : World} {fuel : Nat} {cs : List Value} {d : DataW H} {p : List MemPlace} (hl : cs.length = 2)
    (h : DataW.trod enc Tryd.prog W 0 (fun _ => true) true fuel 25 cs = some (d, p)) (hb : Rows.uptoBulk d ≤ 1048576) :
    ∃ fo fs cf no ns cn, cs = [.slice fo (fs : List Kit.FT).length cf, .slice no (ns : List (ByteArray × ByteArray)).length cn] ∧ Kit.Sch (fun b => b < W.heap.size) W 1048576 fo no cf cn fs ns := by
  obtain ⟨xs, m2, _, hd, _, hxs, hf⟩ := DataW.trod_struct Tryd.underlying25 h
  obtain ⟨c0, c1, rfl⟩ := list2 cs hl
  obtain ⟨y0, y1, rfl⟩ := list2 xs (hxs.trans rfl)
  have f0 : DataW.trod enc Tryd.prog W 0 (fun _ => true) true m2 22 ((([c0, c1] : List Value).drop 0).take (Tryd.prog.cellsOf 22)) = some y0 := hf 0 _ rfl
  have f1 : DataW.trod enc Tryd.prog W 0 (fun _ => true) true m2 23 ((([c0, c1] : List Value).drop 1).take (Tryd.prog.cellsOf 23)) = some y1 := hf 1 _ rfl
  rw [cells24] at f0
  rw [cells25] at f1
  simp only [List.drop_zero, List.drop_succ_cons, List.take_succ_cons, List.take_zero] at f0 f1
  simp only [Prod.mk.injEq] at hd
  rw [hd.1] at hb
  simp only [Rows.uptoBulk] at hb
  have hy0 : Rows.uptoBulk y0.1 ≤ Rows.uptoBulkAll ([y0, y1].map fun x => x.1) := part_le (List.mem_map_of_mem (by simp))
  have hy1 : Rows.uptoBulk y1.1 ≤ Rows.uptoBulkAll ([y0, y1].map fun x => x.1) := part_le (List.mem_map_of_mem (by simp))
  obtain ⟨fo, l1, cf, rfl, h1, h2⟩ := fields_at 1048576 (Nat.le_refl _) (d := y0.1) (p := y0.2) f0 (by omega)
  obtain ⟨no, l2, cn, rfl, h3⟩ := notes_at (d := y1.1) (p := y1.2) f1 (by omega)
  exact ⟨fo, l1, cf, no, l2, cn, rfl, h2, h1, h3⟩
set_option maxRecDepth 100000 in
/-- whole numbers, read -/
theorem zs_at {H : Type} {enc : TypeId × Value → H} {W : World} {fuel : Nat} {v : Value} {d : DataW H} {p : List MemPlace}
    (h : DataW.trod enc Tryd.prog W 0 (fun _ => true) true fuel 39 [v] = some (d, p)) (hb : Rows.uptoBulk d ≤ 1048576) : ∃ ao l ca, v = .slice ao (l : List Int).length ca ∧ l.length ≤ Kit.big ∧ Kit.ZsAt W ao l := by
  rcases open_slice Tryd.underlying39 h with ⟨hcs, _⟩ | ⟨a, len, cap, m, n, D, Pl, hcs, _, hl, hm, hmm, hx, hc⟩
  · simp at hcs
    subst hcs
    exact ⟨none, [], 0, rfl, by simp [Kit.big], fun h => absurd rfl h⟩
  · simp at hcs
    subst hcs
    simp only [if_true] at hmm
    subst hmm
    simp only [Prod.mk.injEq] at hx
    have hlen : len ≤ 1048576 := by
      rw [hx.1] at hb
      simp only [Rows.uptoBulk] at hb
      have := length_le ((List.range len).map D)
      simp at this
      omega
    have hall : ∀ i, i < len → ∃ q : Int, W.cells? 0 (a.add (i * 1)) 1 = some [.int .i64 q] := by
      intro i hi
      obtain ⟨cs', hc', ht⟩ := hc i (by omega)
      rw [cells3] at hc'
      obtain ⟨_, hl', _⟩ := World.cells?_some hc'
      obtain ⟨c0, rfl⟩ := List.length_eq_one_iff.1 hl'
      obtain ⟨s0, e0, _⟩ := DataW.trod_int Tryd.underlying3 ht
      simp at e0
      subst e0
      exact ⟨s0, hc'⟩
    obtain ⟨F, hF⟩ := choose_lt hall
    refine ⟨some a, (List.range len).map F, m, by simp, by simp [Kit.big]; omega, fun h0 => ?_⟩
    have h0' : 0 < len := by cases len with | zero => simp at h0 | succ n => omega
    obtain ⟨b, off, spot⟩ := a
    have hsp : spot = none := by
      obtain ⟨_, hl', hcell'⟩ := World.cells?_some (hF 0 h0')
      have g0 := hcell' 0 (by omega)
      have hsp := World.cell?_spot (g0.trans rfl)
      simp [Addr.add] at hsp
      exact hsp
    subst hsp
    refine ⟨b, off, rfl, fun i hi => ?_⟩
    simp at hi
    have he : ((List.range len).map F)[i]'(by simpa using hi) = F i := by simp
    rw [he]
    obtain ⟨_, _, hcell⟩ := World.cells?_some (hF i hi)
    rw [add0] at hcell
    have g0 := hcell 0 (by omega)
    simp only [add0, Nat.add_zero, Nat.mul_one, List.getElem?_cons_zero] at g0
    exact g0
end Go.Proofs.YtfepbpibhcfjdaaDoor.kindR
