import Derived.Test.YtfepbpibhcfjdaaDoorLQ
import Derived.Test.YtfepbpibhcfjdaaDoorMB
namespace Go.Proofs.YtfepbpibhcfjdaaDoor.Kit
open Go.RowKit Go.Shelf Go.Deep
set_option linter.unusedVariables false
attribute [local go_sem] run_store_func

def AnsV (F : Nat) (args : Array Value) (v : Value) (w : World) : Prop := ∀ W, Gr w W → Calls Tryd.prog F args W fun e w' => e = .returned v ∧ Gr W w'
theorem AnsV.gr {F : Nat} {args : Array Value} {v : Value} {w W : World} (h : AnsV F args v w) (g : Gr w W) : AnsV F args v W := fun W' g' => h W' (g.trans g' (fun _ _ h => h))
theorem Tells.gr {F : Nat} {v : Value} {er : Int} {p : List Nat} {tt : Int} {w W : World} (h : Tells w F v er p tt) (g : Gr w W) : Tells W F v er p tt := fun W' g' => h W' (g.trans g' (fun _ _ h => h))

set_option maxRecDepth 100000 in
set_option maxHeartbeats 2000000 in
theorem maybe_gen {fo no : Option Addr} {nf cf nn cn : Nat} {er tt : Int} {p : List Nat} {w : World} (h : Tells w 11 (.agg #[.slice fo nf cf, .slice no nn cn]) er p tt) :
    Ans 21 #[.agg #[.slice fo nf cf, .slice no nn cn]] (er == 0) w := by
  intro W g
  have HL := hidM (h.gr g)
  clear h g
  unfold Tells at HL
  have hfl : ∀ vo vn vc w, (Instr.field 41 (.agg #[.int .i64 er, .slice vo vn vc, .int .i64 tt]) 0).run Tryd.prog w = .ok (.int .i64 er) w := fun vo vn vc w => by kernel_rfl
  go_enter Tryd.func21, Tryd.ntmps21
  go_wp2_with (go_at_call 11; refine Hid.out ?_)
  unfold Hid
  refine Calls.mono (HL.out _ (gr_alloc W _)) ?_
  rintro e W1 ⟨vo, vc, rfl, hg1, -⟩
  have HE := hidM hg1
  clear hg1
  go_wp2_with fail
  go_ret
  exact ⟨rfl, (gr_alloc W _).trans HE.out (fun _ _ h => h)⟩
set_option maxRecDepth 100000 in
set_option maxHeartbeats 2000000 in
theorem count_gen {fo no : Option Addr} {nf cf nn cn : Nat} {er tt k : Int} {w : World}
    (hl : ∀ W, Gr w W → Calls Tryd.prog 32 #[.agg #[.slice fo nf cf, .slice no nn cn]] W fun e w' => ∃ vo vn vc k', e = .returned (.tuple #[.agg #[.int .i64 er, .slice vo vn vc, .int .i64 tt], .int .i64 k']) ∧ Gr W w' ∧ (er = 0 → k' = k)) :
    AnsV 12 #[.agg #[.slice fo nf cf, .slice no nn cn]] (.int .i64 (if er = 0 then k else 0)) w := by
  intro W g
  have HL : Hid (∀ W', Gr W W' → Calls Tryd.prog 32 #[.agg #[.slice fo nf cf, .slice no nn cn]] W' fun e w' => ∃ vo vn vc k', e = .returned (.tuple #[.agg #[.int .i64 er, .slice vo vn vc, .int .i64 tt], .int .i64 k']) ∧ Gr W' w' ∧ (er = 0 → k' = k)) := fun W' g' => hl W' (g.trans g' (fun _ _ h => h))
  clear hl g
  go_enter Tryd.func12, Tryd.ntmps12
  go_wp2_with (go_at_call 32; refine Hid.out ?_)
  unfold Hid
  refine Calls.mono (HL.out _ (gr_alloc W _)) ?_
  rintro e W1 ⟨vo, vn, vc, k', rfl, hg1, hk⟩
  have HE := hidM hg1
  have HK := hidM hk
  clear hg1 hk HL
  by_cases h0 : er = 0
  · have hk' := HK.out h0
    subst h0 hk'
    go_wp2_with fail
    go_ret
    exact ⟨rfl, ((gr_alloc W _).trans HE.out (fun _ _ h => h)).alloc _⟩
  · have hb := beqZ h0
    go_wp2_with fail
    go_ret
    exact ⟨rfl, ((gr_alloc W _).trans HE.out (fun _ _ h => h)).alloc _⟩
set_option maxRecDepth 100000 in
set_option maxHeartbeats 2000000 in
theorem find_false {fo no : Option Addr} {nf cf nn cn : Nat} {nm : ByteArray} {w : World}
    (hl : Ans 21 #[.agg #[.slice fo nf cf, .slice no nn cn]] false w) : AnsV 19 #[.agg #[.slice fo nf cf, .slice no nn cn], .string nm] (.int .i64 (-1)) w := by
  intro W g
  have HL := hidM (hl.gr g)
  clear hl g
  go_enter Tryd.func19, Tryd.ntmps19
  go_wp2_with (go_at_call 21; refine Hid.out ?_)
  unfold Hid
  refine Calls.mono (HL.out _ (gr_alloc W _)) ?_
  rintro e W1 ⟨rfl, hg1⟩
  have HG := hidM ((gr_alloc W _).trans hg1 (fun _ _ h => h))
  clear hg1
  go_wp2_with fail
  go_ret
  exact ⟨rfl, HG.out⟩
/-- both ways -/
theorem find_gen {fo no : Option Addr} {nf cf nn cn : Nat} {nm : ByteArray} {b : Bool} {k : Int} {w : World}
    (hl : Ans 21 #[.agg #[.slice fo nf cf, .slice no nn cn]] b w) (hk : AnsV 41 #[.slice fo nf cf, .string nm] (.int .i64 k) w) : AnsV 19 #[.agg #[.slice fo nf cf, .slice no nn cn], .string nm] (.int .i64 (if b = true then k else -1)) w := by
  cases b with
  | true => exact find_walk fo no nf cf nn cn nm k w hl hk
  | false => exact find_false hl
end Go.Proofs.YtfepbpibhcfjdaaDoor.Kit
namespace Go.Proofs.YtfepbpibhcfjdaaDoor.Kit
open Go.RowKit Go.Shelf Go.Deep
set_option linter.unusedVariables false
attribute [local go_sem] run_store_func

/-- what the document's Nodes answers -/
def NodesQ (S : Nat → Prop) (W : World) (er : Int) (N : List LS) (e : Ending) (w' : World) : Prop :=
  ∃ n vo vc, e = .returned (.slice vo n vc) ∧ Gr W w' ∧ (er ≠ 0 → n = 0) ∧ (er = 0 → n = N.length ∧ OutAt S w' (.slice vo N.length vc) N ∧ ∀ b, S b → b < w'.heap.size ∧ (Value.slice vo N.length vc).ownBlock ≠ some b)
theorem two_boxes (W : World) (a b c d : Value) (t : Nat) : ((W.alloc (.cells #[a, b] t)).alloc (.cells #[c, d] t)).heap[W.heap.size]? = some (.cells #[a, b] t) ∧ ((W.alloc (.cells #[a, b] t)).alloc (.cells #[c, d] t)).heap[W.heap.size + 1]? = some (.cells #[c, d] t) := by
  refine ⟨(Below.heap_alloc _ _ _ (by simp)).trans (World.alloc_heap_new W _), ?_⟩
  have := World.alloc_heap_new (W.alloc (.cells #[a, b] t)) (.cells #[c, d] t)
  rw [World.size_alloc] at this
  exact this
end Go.Proofs.YtfepbpibhcfjdaaDoor.Kit
