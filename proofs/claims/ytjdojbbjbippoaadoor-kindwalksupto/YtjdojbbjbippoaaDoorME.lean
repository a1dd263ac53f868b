import Derived.Test.YtjdojbbjbippoaaDoorLQ
import Derived.Test.YtjdojbbjbippoaaDoorMB
namespace Go.Proofs.YtjdojbbjbippoaaDoor.Kit
open Go.RowKit Go.Shelf Go.Deep
set_option linter.unusedVariables false
attribute [local go_sem] run_store_func

def AnsV (F : Nat) (args : Array Value) (v : Value) (w : World) : Prop := ∀ W, Gr w W → Calls Tryd.prog F args W fun e w' => e = .returned v ∧ Gr W w'
theorem AnsV.gr {F : Nat} {args : Array Value} {v : Value} {w W : World} (h : AnsV F args v w) (g : Gr w W) : AnsV F args v W := fun W' g' => h W' (g.trans g' (fun _ _ h => h))
theorem Tells.gr {F : Nat} {v : Value} {er : Int} {p : List Nat} {tt : Int} {w W : World} (h : Tells w F v er p tt) (g : Gr w W) : Tells W F v er p tt := fun W' g' => h W' (g.trans g' (fun _ _ h => h))

set_option maxRecDepth 100000 in
set_option maxHeartbeats 2000000 in
theorem maybe_gen {fo no : Option Addr} {nf cf nn cn : Nat} {er tt : Int} {p : List Nat} {w : World} (h : Tells w 13 (.agg #[.slice fo nf cf, .slice no nn cn]) er p tt) :
    Ans 21 #[.agg #[.slice fo nf cf, .slice no nn cn]] (er == 0) w := by
  intro W g
  have HL := hidM (h.gr g)
  clear h g
  unfold Tells at HL
  have hfl : ∀ vo vn vc w, (Instr.field 48 (.agg #[.int .i64 er, .slice vo vn vc, .int .i64 tt]) 0).run Tryd.prog w = .ok (.int .i64 er) w := fun vo vn vc w => by kernel_rfl
  go_enter Tryd.func21, Tryd.ntmps21
  go_wp2_with (go_at_call 13; refine Hid.out ?_)
  unfold Hid
  refine Calls.mono (HL.out _ (gr_alloc W _)) ?_
  rintro e W1 ⟨vo, vc, rfl, hg1, -⟩
  have HE := hidM hg1
  clear hg1
  go_wp2_with fail
  go_ret
  exact ⟨rfl, (gr_alloc W _).trans HE.out (fun _ _ h => h)⟩
set_option maxRecDepth 100000 in
set_option maxHeartbeats 2000000 in
theorem count_gen {fo no : Option Addr} {nf cf nn cn : Nat} {er tt k : Int} {w : World}
    (hl : ∀ W, Gr w W → Calls Tryd.prog 30 #[.agg #[.slice fo nf cf, .slice no nn cn]] W fun e w' => ∃ vo vn vc k', e = .returned (.tuple #[.agg #[.int .i64 er, .slice vo vn vc, .int .i64 tt], .int .i64 k']) ∧ Gr W w' ∧ (er = 0 → k' = k)) :
    AnsV 15 #[.agg #[.slice fo nf cf, .slice no nn cn]] (.int .i64 (if er = 0 then k else 0)) w := by
  intro W g
  have HL : Hid (∀ W', Gr W W' → Calls Tryd.prog 30 #[.agg #[.slice fo nf cf, .slice no nn cn]] W' fun e w' => ∃ vo vn vc k', e = .returned (.tuple #[.agg #[.int .i64 er, .slice vo vn vc, .int .i64 tt], .int .i64 k']) ∧ Gr W' w' ∧ (er = 0 → k' = k)) := fun W' g' => hl W' (g.trans g' (fun _ _ h => h))
  clear hl g
  go_enter Tryd.func15, Tryd.ntmps15
  go_wp2_with (go_at_call 30; refine Hid.out ?_)
  unfold Hid
  refine Calls.mono (HL.out _ (gr_alloc W _)) ?_
  rintro e W1 ⟨vo, vn, vc, k', rfl, hg1, hk⟩
  have HE := hidM hg1
  have HK := hidM hk
  clear hg1 hk HL
  by_cases h0 : er = 0
  · have hk' := HK.out h0
    subst h0 hk'
    go_wp2_with fail
    go_ret
    exact ⟨rfl, ((gr_alloc W _).trans HE.out (fun _ _ h => h)).alloc _⟩
  · have hb := beqZ h0
    go_wp2_with fail
    go_ret
    exact ⟨rfl, ((gr_alloc W _).trans HE.out (fun _ _ h => h)).alloc _⟩
set_option maxRecDepth 100000 in
set_option maxHeartbeats 2000000 in
theorem find_false {fo no : Option Addr} {nf cf nn cn : Nat} {nm : ByteArray} {w : World}
    (hl : Ans 21 #[.agg #[.slice fo nf cf, .slice no nn cn]] false w) : AnsV 16 #[.agg #[.slice fo nf cf, .slice no nn cn], .string nm] (.int .i64 (-1)) w := by
  intro W g
  have HL := hidM (hl.gr g)
  clear hl g
  go_enter Tryd.func16, Tryd.ntmps16
  go_wp2_with (go_at_call 21; refine Hid.out ?_)
  unfold Hid
  refine Calls.mono (HL.out _ (gr_alloc W _)) ?_
  rintro e W1 ⟨rfl, hg1⟩
  have HG := hidM ((gr_alloc W _).trans hg1 (fun _ _ h => h))
  clear hg1
  go_wp2_with fail
  go_ret
  exact ⟨rfl, HG.out⟩
/-- both ways -/
theorem find_gen {fo no : Option Addr} {nf cf nn cn : Nat} {nm : ByteArray} {b : Bool} {k : Int} {w : World}
    (hl : Ans 21 #[.agg #[.slice fo nf cf, .slice no nn cn]] b w) (hk : AnsV 34 #[.slice fo nf cf, .string nm] (.int .i64 k) w) : AnsV 16 #[.agg #[.slice fo nf cf, .slice no nn cn], .string nm] (.int .i64 (if b = true then k else -1)) w := by
  cases b with
  | true => exact find_walk fo no nf cf nn cn nm k w hl hk
  | false => exact find_false hl
end Go.Proofs.YtjdojbbjbippoaaDoor.Kit
namespace Go.Proofs.YtjdojbbjbippoaaDoor.Kit
open Go.RowKit Go.Shelf Go.Deep
set_option linter.unusedVariables false
attribute [local go_sem] run_store_func

/-- what the document's Nodes answers -/
def NodesQ (S : Nat → Prop) (W : World) (er : Int) (N : List LS) (e : Ending) (w' : World) : Prop :=
  ∃ n vo vc, e = .returned (.slice vo n vc) ∧ Gr W w' ∧ (er ≠ 0 → n = 0) ∧ (er = 0 → n = N.length ∧ OutAt S w' (.slice vo N.length vc) N ∧ ∀ b, S b → b < w'.heap.size ∧ (Value.slice vo N.length vc).ownBlock ≠ some b)
set_option maxRecDepth 100000 in
set_option maxHeartbeats 2000000 in
theorem nodesR_gen {S : Nat → Prop} {D : Nat} {fo no : Option Addr} {cf nn cn : Nat} {fs : List FT} {er tt : Int} {p : List Nat} {w : World} (h : Tells w 18 (.agg #[.slice fo fs.length cf, .slice no nn cn]) er p tt) (hr : RowAt S w D fo fs) (hcf : fs.length ≤ cf) (hS : ∀ b, S b → b < w.heap.size) :
    ∀ W, Gr w W → Calls Tryd.prog 5 #[.agg #[.slice fo fs.length cf, .slice no nn cn]] W (NodesQ S W er (grown [] (nodesC D fs [] false))) := by
  intro W g
  have HL := hidM (h.gr g)
  have HGr : Hid (∀ w1, Gr W w1 → Calls Tryd.prog 19 #[.slice fo fs.length cf, .slice none 0 0, .bool false, .slice none 0 0] w1 (GrowR S w1 (.slice none 0 0) (grown [] (nodesC D fs [] false)))) := fun w1 g1 =>
    grow_any S D w1 fo none none cf 0 0 fs [] false [] (hr.kept fun b h => (g.trans g1 (fun _ _ h => h)).block b (hS b h) id) hcf (by simp) (World.ownsRow_nil _ _ _ _) (OutAt.nil S w1) (by simp) (fun b hb => ⟨by have := hS b hb; have := g1.size; have := g.size; omega, by simp [Value.ownBlock]⟩)
  have HS : Hid (∀ b, S b → b < W.heap.size) := fun b hb => by have := hS b hb; have := g.size; omega
  clear h hr hcf hS g
  generalize grown [] (nodesC D fs [] false) = N at *
  generalize fs.length = L at *
  unfold Tells at HL
  have hfl : ∀ vo vn vc w, (Instr.field 48 (.agg #[.int .i64 er, .slice vo vn vc, .int .i64 tt]) 0).run Tryd.prog w = .ok (.int .i64 er) w := fun vo vn vc w => by kernel_rfl
  have hbx := World.alloc_heap_new W (.cells #[.slice fo L cf, .slice no nn cn] 25)
  have HX := hidM hbx
  clear hbx
  go_enter Tryd.func5, Tryd.ntmps5
  go_wp2_with (go_at_call 18; refine Hid.out ?_)
  unfold Hid
  refine Calls.mono (HL.out _ (gr_alloc W _)) ?_
  rintro e W1 ⟨vo, vc, rfl, hg1, -⟩
  have x1 := (hg1.block _ (lt_of_heap HX.out) id).trans HX.out
  have y0 : W1.cell? ⟨W.heap.size, 0, none⟩ = some (.slice fo L cf) := by simp [World.cell?, x1]
  have HG := hidM ((gr_alloc W _).trans hg1 (fun _ _ h => h))
  clear hg1 x1 HX HL
  by_cases h0 : er = 0
  · subst h0
    go_wp2_with (go_at_call 19; refine Hid.out ?_)
    unfold Hid
    refine Calls.mono (HGr.out _ HG.out) ?_
    rintro e w2 ⟨vo, vc, rfl, hI⟩
    have hg2 : Gr W1 w2 := hI.k.mono fun _ _ h => by simp [Value.ownBlock] at h
    have HQ : Hid (NodesQ S W 0 N (.returned (.slice vo N.length vc)) w2) := ⟨_, vo, vc, rfl, HG.out.trans hg2 (fun _ _ h => h), fun h => absurd rfl h, fun _ => ⟨rfl, hI.at_, fun b hb => by
      have h1 := HS.out b hb
      have h2 := HG.out.size
      have h3 := hg2.size
      refine ⟨by omega, fun e => ?_⟩
      rcases hI.own with h | h
      · rw [h] at e; simp [Value.ownBlock] at e
      · have := h b e; omega⟩⟩
    clear hI hg2
    go_wp2_with fail
    go_ret
    exact HQ.out
  · have hb := beqZ h0
    have HQ : Hid (NodesQ S W er N (.returned (.slice none 0 0)) W1) := ⟨0, none, 0, rfl, HG.out, fun _ => rfl, fun h => absurd h h0⟩
    go_wp2_with fail
    go_ret
    exact HQ.out
theorem two_boxes (W : World) (a b c d : Value) (t : Nat) : ((W.alloc (.cells #[a, b] t)).alloc (.cells #[c, d] t)).heap[W.heap.size]? = some (.cells #[a, b] t) ∧ ((W.alloc (.cells #[a, b] t)).alloc (.cells #[c, d] t)).heap[W.heap.size + 1]? = some (.cells #[c, d] t) := by
  refine ⟨(Below.heap_alloc _ _ _ (by simp)).trans (World.alloc_heap_new W _), ?_⟩
  have := World.alloc_heap_new (W.alloc (.cells #[a, b] t)) (.cells #[c, d] t)
  rw [World.size_alloc] at this
  exact this
end Go.Proofs.YtjdojbbjbippoaaDoor.Kit
