import Derived.Test.YtfepbpibhcfjdaaDoorJC
namespace Go.Proofs.YtfepbpibhcfjdaaDoor.Kit
open Go.RowKit Go.Shelf Go.Deep
set_option linter.unusedVariables false
attribute [local go_sem] run_store_func

theorem src_strs {w W : World} {vo : Option Addr} {vc : Nat} {ts : List ByteArray} (h : Strs w W vo vc ts) : Src Tryd.prog 1 56 (.slice vo ts.length vc) ts.length (ts.map Value.string) W := by
  rcases h.own.2 with ⟨e, h0⟩ | ⟨g, cap, cur, e, _⟩
  · have : ts = [] := List.eq_nil_of_length_eq_zero h0
    subst this
    cases e
    exact Src.ofNil (w := W) Tryd.underlying56 _
  · cases e
    exact Src.ofSlice (w := W) Tryd.underlying56 ⟨g, 0, none⟩ ts.length vc (ts.map Value.string) (by simp) (h.own.cells rfl) (fun u hu => by simp at hu; obtain ⟨a, _, rfl⟩ := hu; rfl)
def joinB (ts : List ByteArray) : ByteArray := ⟨(Lib.join (ts.map (·.data.toList)) [44, 32]).toArray⟩
def brackB (k : Nat) (ts : List ByteArray) : ByteArray := ⟨(wordK k).toArray⟩ ++ ⟨#[40]⟩ ++ joinB ts ++ ⟨#[41]⟩

set_option maxRecDepth 100000 in
set_option maxHeartbeats 2000000 in
theorem typeText_brack (k : Nat) (hk : k = 15 ∨ k = 17 ∨ k = 18 ∨ k = 20) (f3 f4 f5 : Int) (ao : Option Addr) (f6 ca : Nat) (ts : List ByteArray) (hts : ts.length ≤ 1000000) (hj : (joinB ts).size ≤ 1000000000000) (w : World) (hT : Tab w)
    (h : ∀ W, Gr w W → Calls Tryd.prog 23 #[.slice ao f6 ca] W fun e w' => ∃ vo vc, e = .returned (.slice vo ts.length vc) ∧ Strs W w' vo vc ts) :
    ∀ W, Gr w W → Calls Tryd.prog 50 #[.agg #[.int .i64 (k : Int), .int .i64 f3, .int .i64 f4, .int .i64 f5, .slice ao f6 ca]] W fun e w' => e = .returned (.string (brackB k ts)) ∧ Gr W w' := by
  intro W g
  have H : Hid (∀ W', Gr W W' → Calls Tryd.prog 23 #[.slice ao f6 ca] W' fun e w' => ∃ vo vc, e = .returned (.slice vo ts.length vc) ∧ Strs W' w' vo vc ts) := fun W' g' => h W' (g.trans g' (fun _ _ h => h))
  have hk21 : k < 21 := by omega
  have hr := (hT.gr g).2 k hk21
  have b0 : ∀ o, (W.alloc o).cell? ⟨0, k * 5, none⟩ = some (.string ⟨(wordK k).toArray⟩) := fun o => (gr_alloc W o).cell' hr.c0 (fun h => h)
  have hwl : (wordK k).length ≤ 10 := by rcases hk with rfl | rfl | rfl | rfl <;> decide
  have HJ : Hid (∀ W1 vo vc, Strs W W1 vo vc ts → Calls Tryd.prog 22 #[.slice vo ts.length vc, .string ⟨#[44, 32]⟩] W1 fun e w' => e = .returned (.string (joinB ts)) ∧ Gr W1 w') := fun W1 vo vc hs => by
    refine join_any vo vc ts ⟨#[44, 32]⟩ W W1 hs (by omega) ?_
    have : (joinB ts).size = (Lib.join (ts.map (·.data.toList)) [44, 32]).length := rfl
    show (Lib.join (ts.map (·.data.toList)) [44, 32]).length ≤ _
    omega
  have hb := fun w => isBracketed_any (k : Int) w
  rw [show decide ((14 : Int) ≤ (k : Int)) = true from decide_eq_true (by omega)] at hb
  have e1 : ((k : Int) == 14) = false := beqF (by omega)
  have e2 : ((k : Int) == 16) = false := beqF (by omega)
  have e3 : ((k : Int) == 19) = false := beqF (by omega)
  unfold brackB
  have hws : (⟨(wordK k).toArray⟩ : ByteArray).size = (wordK k).length := rfl
  obtain ⟨wd, hwd⟩ : ∃ wd : ByteArray, wd = ⟨(wordK k).toArray⟩ := ⟨_, rfl⟩
  rw [← hwd] at hws b0 ⊢
  generalize joinB ts = jt at *
  have s1 : (wd ++ (⟨#[40]⟩ : ByteArray)).size = wd.size + 1 := by rw [ByteArray.size_append]; rfl
  have s2 : (wd ++ (⟨#[40]⟩ : ByteArray) ++ jt).size = wd.size + 1 + jt.size := by rw [ByteArray.size_append, s1]
  have m1 := fun w => run_string_add_sum (P := Tryd.prog) w wd ⟨#[40]⟩ (by show wd.size + 1 ≤ _; omega)
  have m2 := fun w => run_string_add_sum (P := Tryd.prog) w (wd ++ ⟨#[40]⟩) jt (by rw [s1]; omega)
  have m3 := fun w => run_string_add_sum (P := Tryd.prog) w (wd ++ ⟨#[40]⟩ ++ jt) ⟨#[41]⟩ (by rw [s2]; show _ + 1 ≤ _; omega)
  have x1 := World.alloc_heap_new W (.cells #[.int .i64 (k : Int), .int .i64 f3, .int .i64 f4, .int .i64 f5, .slice ao f6 ca] 33)
  have HX := hidM x1
  clear hr hT g h hwl hws s1 s2 hwd x1 hk
  go_enter Tryd.func50, Tryd.ntmps50
  go_wp2_with (first | (go_at_call 69; refine (hb _).mono ?_; rintro e w' ⟨rfl, rfl⟩) | (go_at_call 23; refine Hid.out ?_))
  unfold Hid
  refine Calls.mono (H.out _ (gr_alloc W _)) ?_
  rintro e W1 ⟨vo, vc, rfl, hs⟩
  have HS := hidM hs
  clear hs
  go_wp2_with (at_builtin; refine Hid.out ?_)
  unfold Hid
  refine wpList_append_any _ rfl (.tmp 39) (.tmp 42) 56 56 rfl 9 (.string ⟨#[]⟩) 16 Tryd.underlying56 info9 rfl _ 0 [] rfl (World.ownsRow_nil _ _ _ _) _ ts.length (ts.map Value.string) rfl (src_strs HS.out) (by omega) (by omega) ?_
  intro v' w1 hown' hgrow hblk
  rw [Nat.zero_add, List.nil_append] at hown'
  obtain ⟨vo', vc', rfl⟩ := own_form hown'
  have HS2 : Hid (Strs W w1 vo' vc' ts) := by
    have g1 : Gr W1 w1 := (Keeps.ofGrown hgrow).mono fun b _ e => by have e' : (Value.slice none 0 0).ownBlock = some b := e; simp [Value.ownBlock] at e'
    refine ⟨hown', ((gr_alloc W _).trans HS.out.gr (fun _ _ h => h)).trans g1 (fun _ _ h => h), fun g e => ?_⟩
    have hz := HS.out.gr.size
    simp at hz
    rcases hblk with h1 | h1
    · rw [h1] at e
      have e' : (Value.slice none 0 0).ownBlock = some g := e
      simp [Value.ownBlock] at e'
    · have := h1 g e; omega
  clear hown' hgrow hblk HS
  go_wp2_with (go_at_call 22; refine Hid.out ?_)
  unfold Hid
  refine Calls.mono (HJ.out _ _ _ HS2.out) ?_
  rintro e W3 ⟨rfl, hg3⟩
  have HE := hidM (HS2.out.gr.trans hg3 (fun _ _ h => h))
  clear hg3
  go_wp2_with fail
  go_ret
  exact ⟨rfl, HE.out⟩

set_option maxRecDepth 100000 in
set_option maxHeartbeats 2000000 in
/-- Print of a schema without notes -/
theorem print_walk (fo no : Option Addr) (nf cf cn : Nat) (ts : List ByteArray) (hts : ts.length ≤ 1000000) (hj : (joinB ts).size ≤ 1000000000000) (w : World)
    (hl : ∀ W, Gr w W → Calls Tryd.prog 21 #[.agg #[.slice fo nf cf, .slice no 0 cn]] W fun e w' => e = .returned (.bool true) ∧ Gr W w')
    (h : ∀ W, Gr w W → Calls Tryd.prog 23 #[.slice fo nf cf] W fun e w' => ∃ vo vc, e = .returned (.slice vo ts.length vc) ∧ Strs W w' vo vc ts) :
    ∀ W, Gr w W → Calls Tryd.prog 7 #[.agg #[.slice fo nf cf, .slice no 0 cn]] W fun e w' => e = .returned (.tuple #[.string (joinB ts), .int .i64 0]) ∧ Gr W w' := by
  intro W g
  have HL : Hid (∀ W', Gr W W' → Calls Tryd.prog 21 #[.agg #[.slice fo nf cf, .slice no 0 cn]] W' fun e w' => e = .returned (.bool true) ∧ Gr W' w') := fun W' g' => hl W' (g.trans g' (fun _ _ h => h))
  have H : Hid (∀ W', Gr W W' → Calls Tryd.prog 23 #[.slice fo nf cf] W' fun e w' => ∃ vo vc, e = .returned (.slice vo ts.length vc) ∧ Strs W' w' vo vc ts) := fun W' g' => h W' (g.trans g' (fun _ _ h => h))
  have HJ : Hid (∀ W0 W1 vo vc, Strs W0 W1 vo vc ts → Calls Tryd.prog 22 #[.slice vo ts.length vc, .string ⟨#[44, 32]⟩] W1 fun e w' => e = .returned (.string (joinB ts)) ∧ Gr W1 w') := fun W0 W1 vo vc hs => by
    refine join_any vo vc ts ⟨#[44, 32]⟩ W0 W1 hs (by omega) ?_
    have : (joinB ts).size = (Lib.join (ts.map (·.data.toList)) [44, 32]).length := rfl
    show (Lib.join (ts.map (·.data.toList)) [44, 32]).length ≤ _
    omega
  generalize joinB ts = jt at *
  have x1 := World.alloc_heap_new W (.cells #[.slice fo nf cf, .slice no 0 cn] 25)
  have HX := hidM x1
  clear hl h g x1
  go_enter Tryd.func7, Tryd.ntmps7
  go_wp2_with (go_at_call 21; refine Hid.out ?_)
  unfold Hid
  refine Calls.mono (HL.out _ (gr_alloc W _)) ?_
  rintro e W1 ⟨rfl, hg1⟩
  have x1 := (hg1.block _ (lt_of_heap HX.out) (fun h => h)).trans HX.out
  have y0 : W1.cell? ⟨W.heap.size, 0, none⟩ = some (.slice fo nf cf) := by simp [World.cell?, x1]
  have HG := hidM (And.intro ((gr_alloc W _).trans hg1 (fun _ _ h => h)) x1)
  clear x1 hg1 HX
  go_wp2_with (go_at_call 23; refine Hid.out ?_)
  unfold Hid
  refine Calls.mono (H.out _ HG.out.1) ?_
  rintro e W2 ⟨vo, vc, rfl, hs⟩
  have HS := hidM hs
  clear hs y0
  go_wp2_with (go_at_call 22; refine Hid.out ?_)
  unfold Hid
  refine Calls.mono (HJ.out _ _ _ _ HS.out) ?_
  rintro e W3 ⟨rfl, hg3⟩
  have g13 : Gr W1 W3 := HS.out.gr.trans hg3 (fun _ _ h => h)
  have x1 := (g13.block _ (lt_of_heap HG.out.2) (fun h => h)).trans HG.out.2
  have y1 : W3.cell? ⟨W.heap.size, 1, none⟩ = some (.slice no 0 cn) := by simp [World.cell?, x1]
  have HE := hidM (HG.out.1.trans g13 (fun _ _ h => h))
  clear hg3 g13 x1
  go_wp2_with fail
  refine bodyPost_ret (v := .tuple #[.string jt, .int .i64 0]) ?_ rfl ⟨rfl, HE.out⟩
  simp [results, Tryd.f7, go_sem]
end Go.Proofs.YtfepbpibhcfjdaaDoor.Kit
