import Derived.Test.YtffmppnlddphaaaDoorLQ
import Derived.Test.YtffmppnlddphaaaDoorMB
namespace Go.Proofs.YtffmppnlddphaaaDoor.Kit
open Go.RowKit Go.Shelf Go.Deep
set_option linter.unusedVariables false
attribute [local go_sem] run_store_func

def AnsV (F : Nat) (args : Array Value) (v : Value) (w : World) : Prop := ∀ W, Gr w W → Calls Tryd.prog F args W fun e w' => e = .returned v ∧ Gr W w'
theorem AnsV.gr {F : Nat} {args : Array Value} {v : Value} {w W : World} (h : AnsV F args v w) (g : Gr w W) : AnsV F args v W := fun W' g' => h W' (g.trans g' (fun _ _ h => h))
theorem Tells.gr {F : Nat} {v : Value} {er : Int} {p : List Nat} {tt : Int} {w W : World} (h : Tells w F v er p tt) (g : Gr w W) : Tells W F v er p tt := fun W' g' => h W' (g.trans g' (fun _ _ h => h))

set_option maxRecDepth 100000 in
set_option maxHeartbeats 2000000 in
theorem maybe_gen {fo no : Option Addr} {nf cf nn cn : Nat} {er tt : Int} {p : List Nat} {w : World} (h : Tells w 11 (.agg #[.slice fo nf cf, .slice no nn cn]) er p tt) :
    Ans 60 #[.agg #[.slice fo nf cf, .slice no nn cn]] (er == 0) w := by
  intro W g
  have HL := hidM (h.gr g)
  clear h g
  unfold Tells at HL
  have hfl : ∀ vo vn vc w, (Instr.field 32 (.agg #[.int .i64 er, .slice vo vn vc, .int .i64 tt]) 0).run Tryd.prog w = .ok (.int .i64 er) w := fun vo vn vc w => by kernel_rfl
  go_enter Tryd.func60, Tryd.ntmps60
  go_wp2_with (go_at_call 11; refine Hid.out ?_)
  unfold Hid
  refine Calls.mono (HL.out _ (gr_alloc W _)) ?_
  rintro e W1 ⟨vo, vc, rfl, hg1, -⟩
  have HE := hidM hg1
  clear hg1
  go_wp2_with fail
  go_ret
  exact ⟨rfl, (gr_alloc W _).trans HE.out (fun _ _ h => h)⟩
set_option maxRecDepth 100000 in
set_option maxHeartbeats 2000000 in
theorem count_gen {fo no : Option Addr} {nf cf nn cn : Nat} {er tt k : Int} {w : World}
    (hl : ∀ W, Gr w W → Calls Tryd.prog 45 #[.agg #[.slice fo nf cf, .slice no nn cn]] W fun e w' => ∃ vo vn vc k', e = .returned (.tuple #[.agg #[.int .i64 er, .slice vo vn vc, .int .i64 tt], .int .i64 k']) ∧ Gr W w' ∧ (er = 0 → k' = k)) :
    AnsV 30 #[.agg #[.slice fo nf cf, .slice no nn cn]] (.int .i64 (if er = 0 then k else 0)) w := by
  intro W g
  have HL : Hid (∀ W', Gr W W' → Calls Tryd.prog 45 #[.agg #[.slice fo nf cf, .slice no nn cn]] W' fun e w' => ∃ vo vn vc k', e = .returned (.tuple #[.agg #[.int .i64 er, .slice vo vn vc, .int .i64 tt], .int .i64 k']) ∧ Gr W' w' ∧ (er = 0 → k' = k)) := fun W' g' => hl W' (g.trans g' (fun _ _ h => h))
  clear hl g
  go_enter Tryd.func30, Tryd.ntmps30
  go_wp2_with (go_at_call 45; refine Hid.out ?_)
  unfold Hid
  refine Calls.mono (HL.out _ (gr_alloc W _)) ?_
  rintro e W1 ⟨vo, vn, vc, k', rfl, hg1, hk⟩
  have HE := hidM hg1
  have HK := hidM hk
  clear hg1 hk HL
  by_cases h0 : er = 0
  · have hk' := HK.out h0
    subst h0 hk'
    go_wp2_with fail
    go_ret
    exact ⟨rfl, ((gr_alloc W _).trans HE.out (fun _ _ h => h)).alloc _⟩
  · have hb := beqZ h0
    go_wp2_with fail
    go_ret
    exact ⟨rfl, ((gr_alloc W _).trans HE.out (fun _ _ h => h)).alloc _⟩
set_option maxRecDepth 100000 in
set_option maxHeartbeats 2000000 in
theorem find_false {fo no : Option Addr} {nf cf nn cn : Nat} {nm : ByteArray} {w : World}
    (hl : Ans 60 #[.agg #[.slice fo nf cf, .slice no nn cn]] false w) : AnsV 32 #[.agg #[.slice fo nf cf, .slice no nn cn], .string nm] (.int .i64 (-1)) w := by
  intro W g
  have HL := hidM (hl.gr g)
  clear hl g
  go_enter Tryd.func32, Tryd.ntmps32
  go_wp2_with (go_at_call 60; refine Hid.out ?_)
  unfold Hid
  refine Calls.mono (HL.out _ (gr_alloc W _)) ?_
  rintro e W1 ⟨rfl, hg1⟩
  have HG := hidM ((gr_alloc W _).trans hg1 (fun _ _ h => h))
  clear hg1
  go_wp2_with fail
  go_ret
  exact ⟨rfl, HG.out⟩
/-- both ways -/
theorem find_gen {fo no : Option Addr} {nf cf nn cn : Nat} {nm : ByteArray} {b : Bool} {k : Int} {w : World}
    (hl : Ans 60 #[.agg #[.slice fo nf cf, .slice no nn cn]] b w) (hk : AnsV 63 #[.slice fo nf cf, .string nm] (.int .i64 k) w) : AnsV 32 #[.agg #[.slice fo nf cf, .slice no nn cn], .string nm] (.int .i64 (if b = true then k else -1)) w := by
  cases b with
  | true => exact find_walk fo no nf cf nn cn nm k w hl hk
  | false => exact find_false hl
set_option maxRecDepth 100000 in
set_option maxHeartbeats 2000000 in
theorem findR_gen {S : Nat → Prop} {D : Nat} {fo no : Option Addr} {cf nn cn : Nat} {fs : List FT} {nm : ByteArray} {er tt : Int} {p : List Nat} {w : World} (h : Tells w 12 (.agg #[.slice fo fs.length cf, .slice no nn cn]) er p tt) (hr : RowAt S w D fo fs) :
    AnsV 33 #[.agg #[.slice fo fs.length cf, .slice no nn cn], .string nm] (.int .i64 (if er = 0 then idxOf fs nm else -1)) w := by
  intro W g
  have HL := hidM (h.gr g)
  have hlen : fs.length ≤ 1000000000000 := hr.len
  have HR : Hid (fs ≠ [] → ∃ b o, fo = some ⟨b, o, none⟩ ∧ ∀ i (h : i < fs.length), ∃ ao' ca', CellsAt W b (o + i * 7) fs[i] ao' ca') := fun hne => by
    cases D with
    | zero => exact absurd hr hne
    | succ d =>
      obtain ⟨b, o, e, _, h⟩ := hr.2 hne
      exact ⟨b, o, e, fun i hi => by obtain ⟨a, c, h1, _⟩ := h i hi; exact ⟨a, c, h1.kept (g.block b (block_lt_of_cell h1.c0) id)⟩⟩
  obtain ⟨L, hL⟩ : ∃ L, L = fs.length := ⟨_, rfl⟩
  rw [← hL] at hlen HL ⊢
  have HLL := hidM hL
  obtain ⟨R, hR⟩ : ∃ R, R = (if er = 0 then idxOf fs nm else -1) := ⟨_, rfl⟩
  rw [← hR]
  have HRR := hidM hR
  clear h hr g hL hR
  unfold Tells at HL
  have hfl : ∀ vo vn vc w, (Instr.field 32 (.agg #[.int .i64 er, .slice vo vn vc, .int .i64 tt]) 0).run Tryd.prog w = .ok (.int .i64 er) w := fun vo vn vc w => by kernel_rfl
  have hbx := World.alloc_heap_new W (.cells #[.slice fo L cf, .slice no nn cn] 27)
  have HX := hidM hbx
  clear hbx
  go_enter Tryd.func33, Tryd.ntmps33
  go_wp2_with (go_at_call 12; refine Hid.out ?_)
  unfold Hid
  refine Calls.mono (HL.out _ (gr_alloc W _)) ?_
  rintro e W1 ⟨vo, vc, rfl, hg1, -⟩
  have x1 := (hg1.block _ (lt_of_heap HX.out) id).trans HX.out
  have y0 : W1.cell? ⟨W.heap.size, 0, none⟩ = some (.slice fo L cf) := by simp [World.cell?, x1]
  have HG := hidM ((gr_alloc W _).trans hg1 (fun _ _ h => h))
  clear hg1 x1 HX HL
  by_cases h0 : er = 0
  · subst h0
    go_wp2_with fail
    go_loopw [14] (fun i wr => ∃ k : Nat, k ≤ L ∧ i = .int .i64 (k : Int) ∧ Hid (Gr W wr ∧ ∀ i (h : i < fs.length), i < k → (sEq fs[i].name nm) = false)) (fun i _ => L - (intOf i).toNat)
    case atStart => exact ⟨0, by omega, rfl, HG.out, fun i h h0 => by omega⟩
    case round =>
      obtain ⟨k, hk, rfl, HK⟩ := hrel
      by_cases hlt : k < L
      · have hkl : k < fs.length := by have := HLL.out; omega
        obtain ⟨b, o, rfl, hcs⟩ := HR.out (fun e => by subst e; simp at hkl)
        obtain ⟨ao', ca', hc⟩ := hcs k hkl
        obtain ⟨g0, g1, g2, g3, g4, g5, g6⟩ := hc.kept (HK.out.1.block b (block_lt_of_cell hc.c0) (fun h => h))
        have HE : Hid (sEq fs[k].name nm = true → R = (k : Int)) := fun hx => by rw [show R = idxOf fs nm from by have e := HRR.out; simpa using e]; exact idxOf_some hkl HK.out.2 hx
        have HM : Hid ((sEq fs[k].name nm) = false → ∀ i (h : i < fs.length), i < k + 1 → (sEq fs[i].name nm) = false) := fun hx i hi hlt => by
          by_cases e : i = k
          · subst e; exact hx
          · exact HK.out.2 i hi (by omega)
        have HGk := hidM HK.out.1
        have hltI : (k : Int) < (L : Int) := by omega
        generalize fs[k] = f at *
        clear hc hcs hkl HK y0
        unfold sEq at HE HM
        cases hq : (f.name.toList == nm.toList) with
        | true =>
          go_wp2
          go_ret
          exact ⟨by rw [HE.out hq]; rfl, HGk.out.alloc _⟩
        | false =>
          go_wp2
          go_roundw
          case rel => exact ⟨k + 1, by omega, by simp, HGk.out.alloc _, HM.out hq⟩
          case measure => simp [intOf]; omega
      · have HE : Hid (R = -1) := by
          show R = -1
          rw [show R = idxOf fs nm from by have e := HRR.out; simpa using e]
          exact idxOf_none fun i hi => HK.out.2 i hi (by have := HLL.out; omega)
        have HGk := hidM HK.out.1
        have hkL : k = L := by omega
        subst hkL
        clear HK y0
        go_wp2_with fail
        go_ret
        exact ⟨by rw [HE.out]; rfl, HGk.out⟩
  · have hb := beqZ h0
    have HE : Hid (R = -1) := by show R = -1; rw [HRR.out, if_neg h0]
    go_wp2_with fail
    go_ret
    exact ⟨by rw [HE.out]; rfl, HG.out⟩
end Go.Proofs.YtffmppnlddphaaaDoor.Kit
namespace Go.Proofs.YtffmppnlddphaaaDoor.Kit
open Go.RowKit Go.Shelf Go.Deep
set_option linter.unusedVariables false
attribute [local go_sem] run_store_func

/-- what the document's Nodes answers -/
def NodesQ (S : Nat → Prop) (W : World) (er : Int) (N : List LS) (e : Ending) (w' : World) : Prop :=
  ∃ n vo vc, e = .returned (.slice vo n vc) ∧ Gr W w' ∧ (er ≠ 0 → n = 0) ∧ (er = 0 → n = N.length ∧ OutAt S w' (.slice vo N.length vc) N ∧ ∀ b, S b → b < w'.heap.size ∧ (Value.slice vo N.length vc).ownBlock ≠ some b)
set_option maxRecDepth 100000 in
set_option maxHeartbeats 2000000 in
theorem nodesR_gen {S : Nat → Prop} {D : Nat} {fo no : Option Addr} {cf nn cn : Nat} {fs : List FT} {er tt : Int} {p : List Nat} {w : World} (h : Tells w 12 (.agg #[.slice fo fs.length cf, .slice no nn cn]) er p tt) (hr : RowAt S w D fo fs) (hcf : fs.length ≤ cf) (hS : ∀ b, S b → b < w.heap.size) :
    ∀ W, Gr w W → Calls Tryd.prog 34 #[.agg #[.slice fo fs.length cf, .slice no nn cn]] W (NodesQ S W er (grown [] (nodesC D fs [] false))) := by
  intro W g
  have HL := hidM (h.gr g)
  have HGr : Hid (∀ w1, Gr W w1 → Calls Tryd.prog 46 #[.slice fo fs.length cf, .slice none 0 0, .bool false, .slice none 0 0] w1 (GrowR S w1 (.slice none 0 0) (grown [] (nodesC D fs [] false)))) := fun w1 g1 =>
    grow_any S D w1 fo none none cf 0 0 fs [] false [] (hr.kept fun b h => (g.trans g1 (fun _ _ h => h)).block b (hS b h) id) hcf (by simp) (World.ownsRow_nil _ _ _ _) (OutAt.nil S w1) (by simp) (fun b hb => ⟨by have := hS b hb; have := g1.size; have := g.size; omega, by simp [Value.ownBlock]⟩)
  have HS : Hid (∀ b, S b → b < W.heap.size) := fun b hb => by have := hS b hb; have := g.size; omega
  clear h hr hcf hS g
  generalize grown [] (nodesC D fs [] false) = N at *
  generalize fs.length = L at *
  unfold Tells at HL
  have hfl : ∀ vo vn vc w, (Instr.field 32 (.agg #[.int .i64 er, .slice vo vn vc, .int .i64 tt]) 0).run Tryd.prog w = .ok (.int .i64 er) w := fun vo vn vc w => by kernel_rfl
  have hbx := World.alloc_heap_new W (.cells #[.slice fo L cf, .slice no nn cn] 27)
  have HX := hidM hbx
  clear hbx
  go_enter Tryd.func34, Tryd.ntmps34
  go_wp2_with (go_at_call 12; refine Hid.out ?_)
  unfold Hid
  refine Calls.mono (HL.out _ (gr_alloc W _)) ?_
  rintro e W1 ⟨vo, vc, rfl, hg1, -⟩
  have x1 := (hg1.block _ (lt_of_heap HX.out) id).trans HX.out
  have y0 : W1.cell? ⟨W.heap.size, 0, none⟩ = some (.slice fo L cf) := by simp [World.cell?, x1]
  have HG := hidM ((gr_alloc W _).trans hg1 (fun _ _ h => h))
  clear hg1 x1 HX HL
  by_cases h0 : er = 0
  · subst h0
    go_wp2_with (go_at_call 46; refine Hid.out ?_)
    unfold Hid
    refine Calls.mono (HGr.out _ HG.out) ?_
    rintro e w2 ⟨vo, vc, rfl, hI⟩
    have hg2 : Gr W1 w2 := hI.k.mono fun _ _ h => by simp [Value.ownBlock] at h
    have HQ : Hid (NodesQ S W 0 N (.returned (.slice vo N.length vc)) w2) := ⟨_, vo, vc, rfl, HG.out.trans hg2 (fun _ _ h => h), fun h => absurd rfl h, fun _ => ⟨rfl, hI.at_, fun b hb => by
      have h1 := HS.out b hb
      have h2 := HG.out.size
      have h3 := hg2.size
      refine ⟨by omega, fun e => ?_⟩
      rcases hI.own with h | h
      · rw [h] at e; simp [Value.ownBlock] at e
      · have := h b e; omega⟩⟩
    clear hI hg2
    go_wp2_with fail
    go_ret
    exact HQ.out
  · have hb := beqZ h0
    have HQ : Hid (NodesQ S W er N (.returned (.slice none 0 0)) W1) := ⟨0, none, 0, rfl, HG.out, fun _ => rfl, fun h => absurd h h0⟩
    go_wp2_with fail
    go_ret
    exact HQ.out
set_option maxRecDepth 100000 in
set_option maxHeartbeats 2000000 in
theorem countR_gen {S : Nat → Prop} {fo no : Option Addr} {nf cf nn cn : Nat} {N : List LS} {er : Int} {w : World} (h : ∀ W, Gr w W → Calls Tryd.prog 34 #[.agg #[.slice fo nf cf, .slice no nn cn]] W (NodesQ S W er N)) :
    AnsV 31 #[.agg #[.slice fo nf cf, .slice no nn cn]] (.int .i64 (if er = 0 then (N.length : Int) else 0)) w := by
  intro W g
  have HL : Hid (∀ W', Gr W W' → Calls Tryd.prog 34 #[.agg #[.slice fo nf cf, .slice no nn cn]] W' (NodesQ S W' er N)) := fun W' g' => h W' (g.trans g' (fun _ _ h => h))
  clear h g
  obtain ⟨R, hR⟩ : ∃ R : Int, R = (if er = 0 then (N.length : Int) else 0) := ⟨_, rfl⟩
  rw [← hR]
  have HR := hidM hR
  clear hR
  go_enter Tryd.func31, Tryd.ntmps31
  go_wp2_with (go_at_call 34; refine Hid.out ?_)
  unfold Hid
  refine Calls.mono (HL.out _ (gr_alloc W _)) ?_
  rintro e W1 ⟨n, vo, vc, rfl, hg1, h1, h2⟩
  have hn : R = (n : Int) := by
    rw [HR.out]
    by_cases h0 : er = 0
    · rw [if_pos h0, (h2 h0).1]
    · rw [if_neg h0, h1 h0]; rfl
  have HN := hidM hn
  have HE := hidM ((gr_alloc W _).trans hg1 (fun _ _ h => h))
  clear hg1 h1 h2 hn
  go_wp2_with fail
  go_ret
  exact ⟨by rw [HN.out]; rfl, HE.out⟩

theorem two_boxes (W : World) (a b c d : Value) (t : Nat) : ((W.alloc (.cells #[a, b] t)).alloc (.cells #[c, d] t)).heap[W.heap.size]? = some (.cells #[a, b] t) ∧ ((W.alloc (.cells #[a, b] t)).alloc (.cells #[c, d] t)).heap[W.heap.size + 1]? = some (.cells #[c, d] t) := by
  refine ⟨(Below.heap_alloc _ _ _ (by simp)).trans (World.alloc_heap_new W _), ?_⟩
  have := World.alloc_heap_new (W.alloc (.cells #[a, b] t)) (.cells #[c, d] t)
  rw [World.size_alloc] at this
  exact this
set_option maxRecDepth 100000 in
set_option maxHeartbeats 2000000 in
theorem alikeSchemas_gen {fo no go' mo : Option Addr} {nf cf nn cn ng cg nm cm : Nat} {x y r : Bool} {w : World} (ha : Ans 60 #[.agg #[.slice fo nf cf, .slice no nn cn]] x w) (hb : Ans 60 #[.agg #[.slice go' ng cg, .slice mo nm cm]] y w) (hc : Ans 61 #[.slice fo nf cf, .slice go' ng cg, .func (.func 62) #[] #[]] r w) :
    Ans 28 #[.agg #[.slice fo nf cf, .slice no nn cn], .agg #[.slice go' ng cg, .slice mo nm cm]] (x && y && r) w := by
  intro W g
  have HA := hidM (ha.gr g)
  have HB := hidM (hb.gr g)
  have HC := hidM (hc.gr g)
  clear ha hb hc g
  obtain ⟨W0, hW0⟩ : ∃ W0, (W.alloc (.cells #[.slice fo nf cf, .slice no nn cn] 27)).alloc (.cells #[.slice go' ng cg, .slice mo nm cm] 27) = W0 := ⟨_, rfl⟩
  have hb2 := two_boxes W (.slice fo nf cf) (.slice no nn cn) (.slice go' ng cg) (.slice mo nm cm) 27
  rw [hW0] at hb2
  have hg0 : Gr W W0 := by rw [← hW0]; exact (gr_alloc W _).alloc _
  have HX := hidM (And.intro hg0 hb2)
  obtain ⟨p0, p1⟩ := cell2 hb2.1
  obtain ⟨q0, q1⟩ := cell2 hb2.2
  clear hb2 hg0
  have next : Hid (∀ w1 w2, (Gr W w1 ∧ w1.heap[W.heap.size]? = some (.cells #[.slice fo nf cf, .slice no nn cn] 27) ∧ w1.heap[W.heap.size + 1]? = some (.cells #[.slice go' ng cg, .slice mo nm cm] 27)) → Gr w1 w2 → (Gr W w2 ∧ w2.heap[W.heap.size]? = some (.cells #[.slice fo nf cf, .slice no nn cn] 27) ∧ w2.heap[W.heap.size + 1]? = some (.cells #[.slice go' ng cg, .slice mo nm cm] 27))) := fun w1 w2 h k => ⟨h.1.trans k (fun _ _ h => h), (k.block _ (lt_of_heap h.2.1) id).trans h.2.1, (k.block _ (lt_of_heap h.2.2) id).trans h.2.2⟩
  go_enter Tryd.func28, Tryd.ntmps28
  go_wp2_with (go_at_call 60; refine Hid.out ?_)
  unfold Hid
  refine Calls.mono (HA.out _ HX.out.1) ?_
  rintro e W1 ⟨rfl, hg1⟩
  clear p0 p1 q0 q1 hW0
  replace HX := hidM (next.out _ _ HX.out hg1)
  clear hg1 HA
  cases x with
  | false =>
    go_wp2_with fail
    go_ret
    exact ⟨rfl, HX.out.1⟩
  | true =>
    obtain ⟨q0, q1⟩ := cell2 HX.out.2.2
    go_wp2_with (go_at_call 60; refine Hid.out ?_)
    unfold Hid
    refine Calls.mono (HB.out _ HX.out.1) ?_
    rintro e W2 ⟨rfl, hg1⟩
    clear q0 q1
    replace HX := hidM (next.out _ _ HX.out hg1)
    clear hg1 HB
    cases y with
    | false =>
      go_wp2_with fail
      go_ret
      exact ⟨rfl, HX.out.1⟩
    | true =>
      obtain ⟨p0, p1⟩ := cell2 HX.out.2.1
      obtain ⟨q0, q1⟩ := cell2 HX.out.2.2
      go_wp2_with (go_at_call 61; refine Hid.out ?_)
      unfold Hid
      refine Calls.mono (HC.out _ HX.out.1) ?_
      rintro e W3 ⟨rfl, hg1⟩
      have HE := hidM (HX.out.1.trans hg1 (fun _ _ h => h))
      clear p0 p1 q0 q1 hg1 HX next
      go_wp2_with fail
      go_ret
      exact ⟨by simp, HE.out⟩
set_option maxRecDepth 100000 in
set_option maxHeartbeats 2000000 in
theorem alikeSchemasR_gen {fo no go' mo : Option Addr} {nf cf nn cn ng cg nm cm : Nat} {er er' tt tt' : Int} {p p' : List Nat} {r : Bool} {w : World} (ha : Tells w 12 (.agg #[.slice fo nf cf, .slice no nn cn]) er p tt) (hb : Tells w 12 (.agg #[.slice go' ng cg, .slice mo nm cm]) er' p' tt') (hc : Ans 52 #[.slice fo nf cf, .slice go' ng cg, .bool true] r w) :
    Ans 29 #[.agg #[.slice fo nf cf, .slice no nn cn], .agg #[.slice go' ng cg, .slice mo nm cm]] ((er == 0) && (er' == 0) && r) w := by
  intro W g
  have HA := hidM (ha.gr g)
  have HB := hidM (hb.gr g)
  have HC := hidM (hc.gr g)
  clear ha hb hc g
  unfold Tells at HA HB
  have hfl : ∀ vo vn vc w, (Instr.field 32 (.agg #[.int .i64 er, .slice vo vn vc, .int .i64 tt]) 0).run Tryd.prog w = .ok (.int .i64 er) w := fun vo vn vc w => by kernel_rfl
  have hfl' : ∀ vo vn vc w, (Instr.field 32 (.agg #[.int .i64 er', .slice vo vn vc, .int .i64 tt']) 0).run Tryd.prog w = .ok (.int .i64 er') w := fun vo vn vc w => by kernel_rfl
  obtain ⟨W0, hW0⟩ : ∃ W0, (W.alloc (.cells #[.slice fo nf cf, .slice no nn cn] 27)).alloc (.cells #[.slice go' ng cg, .slice mo nm cm] 27) = W0 := ⟨_, rfl⟩
  have hb2 := two_boxes W (.slice fo nf cf) (.slice no nn cn) (.slice go' ng cg) (.slice mo nm cm) 27
  rw [hW0] at hb2
  have hg0 : Gr W W0 := by rw [← hW0]; exact (gr_alloc W _).alloc _
  have HX := hidM (And.intro hg0 hb2)
  obtain ⟨p0, p1⟩ := cell2 hb2.1
  obtain ⟨q0, q1⟩ := cell2 hb2.2
  clear hb2 hg0
  have next : Hid (∀ w1 w2, (Gr W w1 ∧ w1.heap[W.heap.size]? = some (.cells #[.slice fo nf cf, .slice no nn cn] 27) ∧ w1.heap[W.heap.size + 1]? = some (.cells #[.slice go' ng cg, .slice mo nm cm] 27)) → Gr w1 w2 → (Gr W w2 ∧ w2.heap[W.heap.size]? = some (.cells #[.slice fo nf cf, .slice no nn cn] 27) ∧ w2.heap[W.heap.size + 1]? = some (.cells #[.slice go' ng cg, .slice mo nm cm] 27))) := fun w1 w2 h k => ⟨h.1.trans k (fun _ _ h => h), (k.block _ (lt_of_heap h.2.1) id).trans h.2.1, (k.block _ (lt_of_heap h.2.2) id).trans h.2.2⟩
  go_enter Tryd.func29, Tryd.ntmps29
  go_wp2_with (go_at_call 12; refine Hid.out ?_)
  unfold Hid
  refine Calls.mono (HA.out _ HX.out.1) ?_
  rintro e W1 ⟨vo1, vc1, rfl, hg1, -⟩
  clear p0 p1 q0 q1 hW0
  replace HX := hidM (next.out _ _ HX.out hg1)
  clear hg1 HA
  by_cases h0 : er = 0
  · subst h0
    obtain ⟨q0, q1⟩ := cell2 HX.out.2.2
    go_wp2_with (go_at_call 12; refine Hid.out ?_)
    unfold Hid
    refine Calls.mono (HB.out _ HX.out.1) ?_
    rintro e W2 ⟨vo2, vc2, rfl, hg1, -⟩
    clear q0 q1
    replace HX := hidM (next.out _ _ HX.out hg1)
    clear hg1 HB
    by_cases h1 : er' = 0
    · subst h1
      obtain ⟨p0, p1⟩ := cell2 HX.out.2.1
      obtain ⟨q0, q1⟩ := cell2 HX.out.2.2
      go_wp2_with (go_at_call 52; refine Hid.out ?_)
      unfold Hid
      refine Calls.mono (HC.out _ HX.out.1) ?_
      rintro e W3 ⟨rfl, hg1⟩
      have HE := hidM (HX.out.1.trans hg1 (fun _ _ h => h))
      clear p0 p1 q0 q1 hg1 HX next
      go_wp2_with fail
      go_ret
      exact ⟨by simp, HE.out⟩
    · have hz := beqZ h1
      go_wp2_with fail
      go_ret
      exact ⟨by simp [hz], HX.out.1⟩
  · have hz := beqZ h0
    go_wp2_with fail
    go_ret
    exact ⟨by simp [hz], HX.out.1⟩
end Go.Proofs.YtffmppnlddphaaaDoor.Kit
