import Derived.Test.YtjdojbbjbippoaaDoorGB
namespace Go.Proofs.YtjdojbbjbippoaaDoor.Kit
open Go.RowKit Go.Shelf Go.Deep
set_option linter.unusedVariables false
attribute [local go_sem] run_store_func

theorem AllR.pre {N L : List LS} {x : LS} (h : AllR N) (hp : L ++ [x] <+: N) : wrongE x L.length (tkL L) = 0 := by
  obtain ⟨r, rfl⟩ := hp
  have := h L.length (by simp)
  simpa using this
theorem AllR.mono {N L : List LS} (h : AllR N) (hp : L <+: N) : AllR L := by
  obtain ⟨r, rfl⟩ := hp
  intro k hk
  have := h k (by simp; omega)
  rw [List.getElem_append_left hk, List.take_append_of_le_length (by omega)] at this
  exact this
theorem first_eq {N L L' : List LS} {x x' : LS} (h : L ++ [x] <+: N) (h' : L' ++ [x'] <+: N) (a : AllR L) (a' : AllR L') (b : wrongE x L.length (tkL L) ≠ 0) (b' : wrongE x' L'.length (tkL L') ≠ 0) : L = L' ∧ x = x' := by
  have key : ∀ {L L' : List LS} {x x' : LS}, L ++ [x] <+: N → L' ++ [x'] <+: N → AllR L' → wrongE x L.length (tkL L) ≠ 0 → ¬ L.length < L'.length := fun {L L' x x'} h h' a' b hlt => by
    have h1 : L ++ [x] <+: L' := List.prefix_of_prefix_length_le h ((List.prefix_append L' [x']).trans h') (by simp; omega)
    exact b (a'.pre h1)
  have hl : L.length = L'.length := by
    have h1 := key h h' a' b
    have h2 := key h' h a b'
    omega
  have := List.prefix_of_prefix_length_le h h' (by simp [hl])
  have e := this.eq_of_length (by simp [hl])
  have := List.append_inj e hl
  exact ⟨this.1, by simpa using this.2⟩

/-- look, where nothing is wrong -/
theorem look_ok {S : Nat → Prop} {D : Nat} {fo no : Option Addr} {cf cn : Nat} {fs : List FT} {ns : List (ByteArray × ByteArray)} {w : World} (hT : Tab w) (hr : RowAt S w D fo fs) (hcf : fs.length ≤ cf) (hD : D ≤ big) (hS : ∀ b, S b → b < w.heap.size) (hn : NotesAt w no ns)
    (hE : (listsE fs.length ns).1 = 0) (hA : AllR (nodes D fs [] false)) : ∀ W, Gr w W →
    Calls Tryd.prog 30 #[.agg #[.slice fo fs.length cf, .slice no ns.length cn]] W fun e w' => ∃ vo vn vc, e = .returned (.tuple #[.agg #[.int .i64 0, .slice vo vn vc, .int .i64 0], .int .i64 ((nodes D fs [] false).length : Int)]) ∧ Gr W w' ∧ True := fun W g => by
  refine (look_walk S D fo no cf cn fs ns W (hT.gr g) (hr.kept fun b h => g.block b (hS b h) id) hcf hD (fun b h => Nat.lt_of_lt_of_le (hS b h) g.size) (hn.gr g)).mono ?_
  rintro e w' ⟨hg, h | h | h⟩
  · exact absurd hE h.1
  · exact ⟨none, 0, 0, h.2.2, hg, trivial⟩
  · obtain ⟨_, L, x, vo, vc, hp, _, hb, _⟩ := h
    exact absurd (hA.pre hp) hb
/-- look, where the first wrong one is known -/
theorem look_bad {S : Nat → Prop} {D : Nat} {fo no : Option Addr} {cf cn : Nat} {fs : List FT} {ns : List (ByteArray × ByteArray)} {w : World} (hT : Tab w) (hr : RowAt S w D fo fs) (hcf : fs.length ≤ cf) (hD : D ≤ big) (hS : ∀ b, S b → b < w.heap.size) (hn : NotesAt w no ns)
    (hE : (listsE fs.length ns).1 = 0) {L : List LS} {x : LS} (hp : L ++ [x] <+: nodes D fs [] false) (hA : AllR L) (hb : wrongE x L.length (tkL L) ≠ 0) : ∀ W, Gr w W →
    Calls Tryd.prog 30 #[.agg #[.slice fo fs.length cf, .slice no ns.length cn]] W fun e w' => ∃ vo vn vc, e = .returned (.tuple #[.agg #[.int .i64 (wrongE x L.length (tkL L)), .slice vo vn vc, .int .i64 0], .int .i64 (L.length : Int)]) ∧ Gr W w' ∧ vn = x.path.length ∧ w'.ownsRow 0 3 1 (.slice vo vn vc) vn (ints x.path) := fun W g => by
  refine (look_walk S D fo no cf cn fs ns W (hT.gr g) (hr.kept fun b h => g.block b (hS b h) id) hcf hD (fun b h => Nat.lt_of_lt_of_le (hS b h) g.size) (hn.gr g)).mono ?_
  rintro e w' ⟨hg, h | h | h⟩
  · exact absurd hE h.1
  · exact absurd (h.2.1.pre hp) hb
  · obtain ⟨_, L', x', vo, vc, hp', hA', hb', he, ho, _⟩ := h
    obtain ⟨rfl, rfl⟩ := first_eq hp hp' hA hA' hb hb'
    exact ⟨vo, _, vc, he, hg, rfl, ho⟩

set_option maxRecDepth 100000 in
set_option maxHeartbeats 2000000 in
theorem check_walk (fo no : Option Addr) (nf cf nn cn : Nat) (er k : Int) (Q : Option Addr → Nat → Nat → World → Prop) (hQ : ∀ vo vn vc A B b c, Q vo vn vc A → A.heap[b]? = some (.cells c 48) → Keeps A B (fun k => k = b) → Q vo vn vc B) (w : World)
    (hl : ∀ W, Gr w W → Calls Tryd.prog 30 #[.agg #[.slice fo nf cf, .slice no nn cn]] W fun e w' => ∃ vo vn vc, e = .returned (.tuple #[.agg #[.int .i64 er, .slice vo vn vc, .int .i64 0], .int .i64 k]) ∧ Gr W w' ∧ Q vo vn vc w') :
    ∀ W, Gr w W → Calls Tryd.prog 13 #[.agg #[.slice fo nf cf, .slice no nn cn]] W fun e w' => ∃ vo vn vc, e = .returned (.agg #[.int .i64 er, .slice vo vn vc, .int .i64 0]) ∧ Gr W w' ∧ Q vo vn vc w' := by
  intro W g
  have HL : Hid (∀ W', Gr W W' → Calls Tryd.prog 30 #[.agg #[.slice fo nf cf, .slice no nn cn]] W' fun e w' => ∃ vo vn vc, e = .returned (.tuple #[.agg #[.int .i64 er, .slice vo vn vc, .int .i64 0], .int .i64 k]) ∧ Gr W' w' ∧ Q vo vn vc w') := fun W' g' => hl W' (g.trans g' (fun _ _ h => h))
  have HQ : Hid _ := hQ
  clear hl g hQ
  have hx2 : ((W.alloc (.cells #[.slice fo nf cf, .slice no nn cn] 25)).alloc (.cells #[.int .i64 0, .slice none 0 0, .int .i64 0] 48)).heap[W.heap.size + 1]? = some (.cells #[.int .i64 0, .slice none 0 0, .int .i64 0] 48) := by
    have := World.alloc_heap_new (W.alloc (.cells #[.slice fo nf cf, .slice no nn cn] 25)) (.cells #[.int .i64 0, .slice none 0 0, .int .i64 0] 48)
    rw [World.size_alloc] at this
    exact this
  have HG0 : Hid (Gr W ((W.alloc (.cells #[.slice fo nf cf, .slice no nn cn] 25)).alloc (.cells #[.int .i64 0, .slice none 0 0, .int .i64 0] 48))) := (gr_alloc W _).alloc _
  have HX := hidM hx2
  clear hx2
  go_enter Tryd.func13, Tryd.ntmps13
  go_wp2_with (go_at_call 30; refine Hid.out ?_)
  unfold Hid
  refine Calls.mono (HL.out _ HG0.out) ?_
  rintro e W1 ⟨vo, vn, vc, rfl, hg1, hq⟩
  have hx3 := (hg1.block _ (lt_of_heap HX.out) (fun h => h)).trans HX.out
  have hx4 : (W1.alloc (.cells #[.int .i64 er, .slice vo vn vc, .int .i64 0] 48)).heap[W.heap.size + 1]? = _ := ((gr_alloc W1 _).block _ (lt_of_heap hx3) (fun h => h)).trans hx3
  obtain ⟨y0, y1, y2⟩ := cell3 hx4
  have y3 := frz hx4 0
  have y4 := frz hx4 1
  have y5 := frz hx4 2
  have e0 := setc (j := 0) hx4 (.int .i64 er)
  have e1 := setc (j := 1) e0 (.slice vo vn vc)
  have e2 := setc (j := 2) e1 (.int .i64 0)
  have k5 : Keeps (W1.alloc (.cells #[.int .i64 er, .slice vo vn vc, .int .i64 0] 48)) _ (fun b => b = W.heap.size + 1) := keep1 (j := 2) (keep1 (j := 1) (keep1 (j := 0) (Keeps.refl (W1.alloc (.cells #[.int .i64 er, .slice vo vn vc, .int .i64 0] 48)) (fun b => b = W.heap.size + 1)) (.int .i64 er)) (.slice vo vn vc)) (.int .i64 0)
  have HE := hidM (And.intro e2 (And.intro k5 (And.intro hg1 (And.intro hq hx3))))
  clear hx3 hx4 e0 e1 e2 k5 hg1 hq
  go_wp2_with fail
  obtain ⟨e2, k5, hg1, hq, hx3⟩ := HE.out
  have hk : Keeps W1 _ (fun b => b = W.heap.size + 1) := (Keeps.trans (S := fun b => b = W.heap.size + 1) ((gr_alloc W1 _).mono fun _ _ h => h.elim) k5 (fun _ _ h => h))
  have hqe := HQ.out _ _ _ _ _ _ _ hq hx3 hk
  have hge := (HG0.out.trans hg1 (fun _ _ h => h)).trans hk (fun j hj h => by omega)
  obtain ⟨v0, v1, v2⟩ := cell3 (e2.trans (by simp : _ = some (Obj.cells #[.int .i64 er, .slice vo vn vc, .int .i64 0] 48 (0, 0))))
  refine bodyPost_ret (v := .agg #[.int .i64 er, .slice vo vn vc, .int .i64 0]) ?_ rfl ⟨vo, vn, vc, rfl, hge, hqe⟩
  simp [results, Tryd.f13, go_sem, v0, v1, v2]
set_option maxRecDepth 100000 in
set_option maxHeartbeats 2000000 in
theorem maybe_walk (fo no : Option Addr) (nf cf nn cn : Nat) (er : Int) (Q : Option Addr → Nat → Nat → World → Prop) (w : World)
    (hl : ∀ W, Gr w W → Calls Tryd.prog 13 #[.agg #[.slice fo nf cf, .slice no nn cn]] W fun e w' => ∃ vo vn vc, e = .returned (.agg #[.int .i64 er, .slice vo vn vc, .int .i64 0]) ∧ Gr W w' ∧ Q vo vn vc w') :
    ∀ W, Gr w W → Calls Tryd.prog 21 #[.agg #[.slice fo nf cf, .slice no nn cn]] W fun e w' => e = .returned (.bool (er == 0)) ∧ Gr W w' := by
  intro W g
  have HL : Hid (∀ W', Gr W W' → Calls Tryd.prog 13 #[.agg #[.slice fo nf cf, .slice no nn cn]] W' fun e w' => ∃ vo vn vc, e = .returned (.agg #[.int .i64 er, .slice vo vn vc, .int .i64 0]) ∧ Gr W' w' ∧ Q vo vn vc w') := fun W' g' => hl W' (g.trans g' (fun _ _ h => h))
  clear hl g
  have hfl : ∀ vo vn vc w, (Instr.field 48 (.agg #[.int .i64 er, .slice vo vn vc, .int .i64 0]) 0).run Tryd.prog w = .ok (.int .i64 er) w := fun vo vn vc w => by kernel_rfl
  go_enter Tryd.func21, Tryd.ntmps21
  go_wp2_with (go_at_call 13; refine Hid.out ?_)
  unfold Hid
  refine Calls.mono (HL.out _ (gr_alloc W _)) ?_
  rintro e W1 ⟨vo, vn, vc, rfl, hg1, hq⟩
  have HE := hidM hg1
  clear hg1 hq
  go_wp2_with fail
  go_ret
  exact ⟨rfl, (gr_alloc W _).trans HE.out (fun _ _ h => h)⟩
set_option maxRecDepth 100000 in
set_option maxHeartbeats 2000000 in
theorem count_walk (fo no : Option Addr) (nf cf nn cn : Nat) (k : Int) (w : World)
    (hl : ∀ W, Gr w W → Calls Tryd.prog 30 #[.agg #[.slice fo nf cf, .slice no nn cn]] W fun e w' => ∃ vo vn vc, e = .returned (.tuple #[.agg #[.int .i64 0, .slice vo vn vc, .int .i64 0], .int .i64 k]) ∧ Gr W w' ∧ True) :
    ∀ W, Gr w W → Calls Tryd.prog 15 #[.agg #[.slice fo nf cf, .slice no nn cn]] W fun e w' => e = .returned (.int .i64 k) ∧ Gr W w' := by
  intro W g
  have HL : Hid (∀ W', Gr W W' → Calls Tryd.prog 30 #[.agg #[.slice fo nf cf, .slice no nn cn]] W' fun e w' => ∃ vo vn vc, e = .returned (.tuple #[.agg #[.int .i64 0, .slice vo vn vc, .int .i64 0], .int .i64 k]) ∧ Gr W' w' ∧ True) := fun W' g' => hl W' (g.trans g' (fun _ _ h => h))
  clear hl g
  go_enter Tryd.func15, Tryd.ntmps15
  go_wp2_with (go_at_call 30; refine Hid.out ?_)
  unfold Hid
  refine Calls.mono (HL.out _ (gr_alloc W _)) ?_
  rintro e W1 ⟨vo, vn, vc, rfl, hg1, -⟩
  have HE := hidM hg1
  clear hg1
  go_wp2_with fail
  go_ret
  exact ⟨rfl, ((gr_alloc W _).trans HE.out (fun _ _ h => h)).alloc _⟩
set_option maxRecDepth 100000 in
set_option maxHeartbeats 2000000 in
theorem find_walk (fo no : Option Addr) (nf cf nn cn : Nat) (nm : ByteArray) (k : Int) (w : World)
    (hl : ∀ W, Gr w W → Calls Tryd.prog 21 #[.agg #[.slice fo nf cf, .slice no nn cn]] W fun e w' => e = .returned (.bool true) ∧ Gr W w')
    (hk : ∀ W, Gr w W → Calls Tryd.prog 34 #[.slice fo nf cf, .string nm] W fun e w' => e = .returned (.int .i64 k) ∧ Gr W w') :
    ∀ W, Gr w W → Calls Tryd.prog 16 #[.agg #[.slice fo nf cf, .slice no nn cn], .string nm] W fun e w' => e = .returned (.int .i64 k) ∧ Gr W w' := by
  intro W g
  have HL : Hid (∀ W', Gr W W' → Calls Tryd.prog 21 #[.agg #[.slice fo nf cf, .slice no nn cn]] W' fun e w' => e = .returned (.bool true) ∧ Gr W' w') := fun W' g' => hl W' (g.trans g' (fun _ _ h => h))
  have HK : Hid (∀ W', Gr W W' → Calls Tryd.prog 34 #[.slice fo nf cf, .string nm] W' fun e w' => e = .returned (.int .i64 k) ∧ Gr W' w') := fun W' g' => hk W' (g.trans g' (fun _ _ h => h))
  clear hl hk g
  have x1 := World.alloc_heap_new W (.cells #[.slice fo nf cf, .slice no nn cn] 25)
  have HX := hidM x1
  clear x1
  go_enter Tryd.func16, Tryd.ntmps16
  go_wp2_with (go_at_call 21; refine Hid.out ?_)
  unfold Hid
  refine Calls.mono (HL.out _ (gr_alloc W _)) ?_
  rintro e W1 ⟨rfl, hg1⟩
  have x1 := (hg1.block _ (lt_of_heap HX.out) (fun h => h)).trans HX.out
  have y0 : W1.cell? ⟨W.heap.size, 0, none⟩ = some (.slice fo nf cf) := by simp [World.cell?, x1]
  have HG := hidM ((gr_alloc W _).trans hg1 (fun _ _ h => h))
  clear x1 hg1 HX
  go_wp2_with (go_at_call 34; refine Hid.out ?_)
  unfold Hid
  refine Calls.mono (HK.out _ HG.out) ?_
  rintro e W2 ⟨rfl, hg2⟩
  have HE := hidM (HG.out.trans hg2 (fun _ _ h => h))
  clear hg2
  go_wp2_with fail
  go_ret
  exact ⟨rfl, HE.out⟩
end Go.Proofs.YtjdojbbjbippoaaDoor.Kit
namespace Go.Proofs.YtjdojbbjbippoaaDoor.Kit
open Go.RowKit Go.Shelf Go.Deep
set_option linter.unusedVariables false
attribute [local go_sem] run_store_func

theorem cell7 {W : World} {B t : Nat} {x0 x1 x2 x3 x4 x5 x6 : Value} (h : W.heap[B]? = some (.cells #[x0, x1, x2, x3, x4, x5, x6] t)) : W.cell? ⟨B, 0, none⟩ = some x0 ∧ W.cell? ⟨B, 0 + 1, none⟩ = some x1 ∧ W.cell? ⟨B, 0 + 2, none⟩ = some x2 ∧ W.cell? ⟨B, 0 + 3, none⟩ = some x3 ∧ W.cell? ⟨B, 0 + 4, none⟩ = some x4 ∧ W.cell? ⟨B, 0 + 5, none⟩ = some x5 ∧ W.cell? ⟨B, 0 + 6, none⟩ = some x6 := by simp [World.cell?, h]
set_option maxRecDepth 100000 in
set_option maxHeartbeats 2000000 in
theorem alone_any (f0 : ByteArray) (f1 : Bool) (f2 f3 f4 f5 : Int) (ao : Option Addr) (f6 ca : Nat) (w : World) :
    Calls Tryd.prog 51 #[.agg #[.string f0, .bool f1, .int .i64 f2, .int .i64 f3, .int .i64 f4, .int .i64 f5, .slice ao f6 ca]] w fun e w' => ∃ g, e = .returned (.agg #[.slice (some ⟨g, 0, none⟩) 1 1, .slice none 0 0]) ∧ Gr w w' ∧ w.heap.size ≤ g ∧ w'.heap[g]? = some (.cells #[.string f0, .bool f1, .int .i64 f2, .int .i64 f3, .int .i64 f4, .int .i64 f5, .slice ao f6 ca] 38) := by
  go_enter Tryd.func51, Tryd.ntmps51
  go_wp2
  obtain ⟨A, hA⟩ : ∃ A, A = w.alloc (.cells #[.string f0, .bool f1, .int .i64 f2, .int .i64 f3, .int .i64 f4, .int .i64 f5, .slice ao f6 ca] 38) := ⟨_, rfl⟩
  have hsA : A.heap.size = w.heap.size + 1 := by rw [hA]; simp
  rw [← hA]
  have x1 : ((A.alloc (.cells #[.slice (some ⟨w.heap.size + 1 + 1, 0, none⟩) 1 1, .slice none 0 0] 25)).alloc (.cells #[.string f0, .bool f1, .int .i64 f2, .int .i64 f3, .int .i64 f4, .int .i64 f5, .slice ao f6 ca] 38)).heap[w.heap.size + 1]? = some (.cells #[.slice (some ⟨w.heap.size + 1 + 1, 0, none⟩) 1 1, .slice none 0 0] 25) := by
    have := World.alloc_heap_new A (.cells #[.slice (some ⟨w.heap.size + 1 + 1, 0, none⟩) 1 1, .slice none 0 0] 25)
    rw [hsA] at this
    exact (Below.heap_alloc _ _ _ (by simp [hsA])).trans this
  have x2 : ((A.alloc (.cells #[.slice (some ⟨w.heap.size + 1 + 1, 0, none⟩) 1 1, .slice none 0 0] 25)).alloc (.cells #[.string f0, .bool f1, .int .i64 f2, .int .i64 f3, .int .i64 f4, .int .i64 f5, .slice ao f6 ca] 38)).heap[w.heap.size + 1 + 1]? = some (.cells #[.string f0, .bool f1, .int .i64 f2, .int .i64 f3, .int .i64 f4, .int .i64 f5, .slice ao f6 ca] 38) := by
    have := World.alloc_heap_new (A.alloc (.cells #[.slice (some ⟨w.heap.size + 1 + 1, 0, none⟩) 1 1, .slice none 0 0] 25)) (.cells #[.string f0, .bool f1, .int .i64 f2, .int .i64 f3, .int .i64 f4, .int .i64 f5, .slice ao f6 ca] 38)
    rw [World.size_alloc, hsA] at this
    exact this
  have hg : Gr w ((A.alloc (.cells #[.slice (some ⟨w.heap.size + 1 + 1, 0, none⟩) 1 1, .slice none 0 0] 25)).alloc (.cells #[.string f0, .bool f1, .int .i64 f2, .int .i64 f3, .int .i64 f4, .int .i64 f5, .slice ao f6 ca] 38)) := by rw [hA]; exact ((gr_alloc w _).alloc _).alloc _
  generalize ((A.alloc (.cells #[.slice (some ⟨w.heap.size + 1 + 1, 0, none⟩) 1 1, .slice none 0 0] 25)).alloc (.cells #[.string f0, .bool f1, .int .i64 f2, .int .i64 f3, .int .i64 f4, .int .i64 f5, .slice ao f6 ca] 38)) = W5 at *
  have v0 : W5.cell? ⟨w.heap.size + 1, 0, none⟩ = some (.slice (some ⟨w.heap.size + 1 + 1, 0, none⟩) 1 1) := by simp [World.cell?, x1]
  have v1 : W5.cell? ⟨w.heap.size + 1, 1, none⟩ = some (.slice none 0 0) := by simp [World.cell?, x1]
  refine bodyPost_ret (v := .agg #[.slice (some ⟨w.heap.size + 1 + 1, 0, none⟩) 1 1, .slice none 0 0]) ?_ rfl ⟨_, rfl, hg, by omega, x2⟩
  simp [results, Tryd.f51, go_sem, v0, v1]
set_option maxRecDepth 100000 in
set_option maxHeartbeats 2000000 in
theorem one_any (s : ByteArray) (w : World) :
    Calls Tryd.prog 12 #[.string s] w fun e w' => e = .returned (.agg #[.string s, .bool false, .int .i64 6, .int .i64 0, .int .i64 0, .int .i64 0, .slice none 0 0]) ∧ Gr w w' := by
  go_enter Tryd.func12, Tryd.ntmps12
  go_wp2
  have x2 := World.alloc_heap_new w (.cells #[.string s, .bool false, .int .i64 6, .int .i64 0, .int .i64 0, .int .i64 0, .slice none 0 0] 38)
  have hg := gr_alloc w (.cells #[.string s, .bool false, .int .i64 6, .int .i64 0, .int .i64 0, .int .i64 0, .slice none 0 0] 38)
  generalize w.alloc (.cells #[.string s, .bool false, .int .i64 6, .int .i64 0, .int .i64 0, .int .i64 0, .slice none 0 0] 38) = W5 at *
  obtain ⟨v0, v1, v2, v3, v4, v5, v6⟩ := cell7 x2
  refine bodyPost_ret (v := .agg #[.string s, .bool false, .int .i64 6, .int .i64 0, .int .i64 0, .int .i64 0, .slice none 0 0]) ?_ rfl ⟨rfl, hg⟩
  simp [results, Tryd.f12, go_sem, v0, v1, v2, v3, v4, v5, v6]
/-- the row of a field alone -/
theorem row_alone {S : Nat → Prop} {W : World} {d g : Nat} {f : FT} {ao : Option Addr} {ca : Nat} (hg : W.heap[g]? = some (.cells #[.string f.name, .bool f.nul, .int .i64 f.kind, .int .i64 f.width, .int .i64 f.id, .int .i64 f.index, .slice ao f.kids.length ca] 38)) (hr : RowAt S W d ao f.kids) (hca : f.kids.length ≤ ca) :
    RowAt (fun b => S b ∨ b = g) W (d + 1) (some ⟨g, 0, none⟩) [f] := by
  refine ⟨by simp [big], fun _ => ⟨g, 0, rfl, .inr rfl, fun i hi => ?_⟩⟩
  obtain rfl : i = 0 := by simp at hi; omega
  obtain ⟨v0, v1, v2, v3, v4, v5, v6⟩ := cell7 hg
  exact ⟨ao, ca, ⟨v0, v1, v2, v3, v4, v5, v6⟩, hca, hr.mono fun b h => .inl h⟩
set_option maxRecDepth 100000 in
set_option maxHeartbeats 2000000 in
theorem fieldMayBe_ok (S : Nat → Prop) (d : Nat) (f : FT) (ao : Option Addr) (ca : Nat) (w : World) (hT : Tab w) (hr : RowAt S w d ao f.kids) (hca : f.kids.length ≤ ca) (hd : d + 1 ≤ big) (hS : ∀ b, S b → b < w.heap.size) (hA : AllR (nodes (d + 1) [f] [] false)) :
    ∀ W, Gr w W → Calls Tryd.prog 35 #[.agg #[.string f.name, .bool f.nul, .int .i64 f.kind, .int .i64 f.width, .int .i64 f.id, .int .i64 f.index, .slice ao f.kids.length ca]] W fun e w' => e = .returned (.bool true) ∧ Gr W w' := by
  intro W g
  have HM : Hid (∀ (W1 : World) (b : Nat), Gr W W1 → W.heap.size ≤ b → W1.heap[b]? = some (.cells #[.string f.name, .bool f.nul, .int .i64 f.kind, .int .i64 f.width, .int .i64 f.id, .int .i64 f.index, .slice ao f.kids.length ca] 38) → Calls Tryd.prog 21 #[.agg #[.slice (some ⟨b, 0, none⟩) 1 1, .slice none 0 0]] W1 fun e w' => e = .returned (.bool true) ∧ Gr W1 w') := by
    intro W1 b g1 hb hx
    have g' : Gr w W1 := g.trans g1 (fun _ _ h => h)
    have hrow := row_alone hx (hr.kept fun b h => g'.block b (hS b h) id) hca
    have hl := look_ok (w := W1) (fo := some ⟨b, 0, none⟩) (no := none) (cf := 1) (cn := 0) (fs := [f]) (ns := []) (hT.gr g') hrow (by simp) hd (fun c h => h.elim (fun h => Nat.lt_of_lt_of_le (hS c h) g'.size) fun h => by rw [h]; exact lt_of_heap hx) ⟨by simp [big], fun h => absurd rfl h⟩ (by simp [listsE]) hA
    exact maybe_walk _ _ _ _ _ _ 0 _ W1 (check_walk _ _ _ _ _ _ 0 _ (fun _ _ _ _ => True) (fun _ _ _ _ _ _ _ _ _ _ => trivial) W1 hl) W1 (Keeps.refl _ _)
  have hal := alone_any f.name f.nul f.kind f.width f.id f.index ao f.kids.length ca (W.alloc (.cells #[.string f.name, .bool f.nul, .int .i64 f.kind, .int .i64 f.width, .int .i64 f.id, .int .i64 f.index, .slice ao f.kids.length ca] 38))
  have HA := hidM hal
  clear hal hr hca hA g
  generalize f.name = f0 at *
  generalize f.nul = f1 at *
  generalize f.kind = f2 at *
  generalize f.width = f3 at *
  generalize f.id = f4 at *
  generalize f.index = f5 at *
  generalize f.kids.length = f6 at *
  go_enter Tryd.func35, Tryd.ntmps35
  go_wp2_with (go_at_call 51; refine Hid.out ?_)
  unfold Hid
  refine Calls.mono HA.out ?_
  rintro e W1 ⟨b, rfl, hg1, hb, hx⟩
  have HC := hidM (HM.out W1 b ((gr_alloc W _).trans hg1 (fun _ _ h => h)) (by simp at hb; omega) hx)
  have HG := hidM ((gr_alloc W _).trans hg1 (fun _ _ h => h))
  clear hg1 hb hx HM HA
  go_wp2_with (go_at_call 21; refine Hid.out ?_)
  unfold Hid
  refine Calls.mono HC.out ?_
  rintro e W2 ⟨rfl, hg2⟩
  have HE := hidM (HG.out.trans hg2 (fun _ _ h => h))
  clear hg2
  go_wp2_with fail
  go_ret
  exact ⟨rfl, HE.out⟩
end Go.Proofs.YtjdojbbjbippoaaDoor.Kit
namespace Go.Proofs.YtjdojbbjbippoaaDoor.Kit
open Go.RowKit Go.Shelf Go.Deep
set_option linter.unusedVariables false
attribute [local go_sem] run_store_func

set_option maxRecDepth 100000 in
set_option maxHeartbeats 2000000 in
theorem equalFunc_nil (ao bo : Option Addr) (ca cb : Nat) (fv : Value) (w : World) :
    Calls Tryd.prog 52 #[.slice ao 0 ca, .slice bo 0 cb, fv] w fun e w' => e = .returned (.bool true) ∧ w' = w := by
  go_enter Tryd.func52, Tryd.ntmps52
  go_wp2
  go_loopw [17] (fun i wr => i = .int .i64 0 ∧ wr = w) (fun _ _ => 0)
  case atStart => exact ⟨rfl, rfl⟩
  case round =>
    obtain ⟨rfl, rfl⟩ := hrel
    go_wp2
    go_ret
    exact ⟨rfl, rfl⟩
set_option maxRecDepth 100000 in
set_option maxHeartbeats 2000000 in
theorem sameTypes_nil (k d i x : Int) (ao bo : Option Addr) (ca cb : Nat) (w : World) :
    Calls Tryd.prog 36 #[.agg #[.int .i64 k, .int .i64 d, .int .i64 i, .int .i64 x, .slice ao 0 ca], .agg #[.int .i64 k, .int .i64 d, .int .i64 i, .int .i64 x, .slice bo 0 cb]] w fun e w' => e = .returned (.bool true) ∧ Gr w w' := by
  go_enter Tryd.func36, Tryd.ntmps36
  have hq := fun fv w => equalFunc_nil ao bo ca cb fv w
  go_wp2_with (go_at_call 52; refine (hq _ _).mono ?_; rintro e w' ⟨rfl, rfl⟩)
  go_ret
  exact ⟨rfl, (gr_alloc w _).alloc _⟩
set_option maxRecDepth 100000 in
set_option maxHeartbeats 2000000 in
theorem alikeFields_walk (f0 g0 : ByteArray) (f1 : Bool) (k d i x : Int) (ao bo : Option Addr) (ca cb : Nat) (w : World)
    (hf : ∀ W, Gr w W → Calls Tryd.prog 35 #[.agg #[.string f0, .bool f1, .int .i64 k, .int .i64 d, .int .i64 i, .int .i64 x, .slice ao 0 ca]] W fun e w' => e = .returned (.bool true) ∧ Gr W w')
    (hg : ∀ W, Gr w W → Calls Tryd.prog 35 #[.agg #[.string g0, .bool f1, .int .i64 k, .int .i64 d, .int .i64 i, .int .i64 x, .slice bo 0 cb]] W fun e w' => e = .returned (.bool true) ∧ Gr W w') :
    ∀ W, Gr w W → Calls Tryd.prog 17 #[.agg #[.string f0, .bool f1, .int .i64 k, .int .i64 d, .int .i64 i, .int .i64 x, .slice ao 0 ca], .agg #[.string g0, .bool f1, .int .i64 k, .int .i64 d, .int .i64 i, .int .i64 x, .slice bo 0 cb]] W fun e w' => e = .returned (.bool true) ∧ Gr W w' := by
  intro W g
  obtain ⟨W0, hW0⟩ : ∃ W0, (W.alloc (.cells #[.string f0, .bool f1, .int .i64 k, .int .i64 d, .int .i64 i, .int .i64 x, .slice ao 0 ca] 38)).alloc (.cells #[.string g0, .bool f1, .int .i64 k, .int .i64 d, .int .i64 i, .int .i64 x, .slice bo 0 cb] 38) = W0 := ⟨_, rfl⟩
  have hg0 : Gr W W0 := by rw [← hW0]; exact (gr_alloc W _).alloc _
  have x1 : W0.heap[W.heap.size]? = some (.cells #[.string f0, .bool f1, .int .i64 k, .int .i64 d, .int .i64 i, .int .i64 x, .slice ao 0 ca] 38) := by
    rw [← hW0]; exact (Below.heap_alloc _ _ _ (by simp)).trans (World.alloc_heap_new W _)
  have x2 : W0.heap[W.heap.size + 1]? = some (.cells #[.string g0, .bool f1, .int .i64 k, .int .i64 d, .int .i64 i, .int .i64 x, .slice bo 0 cb] 38) := by
    rw [← hW0]
    have := World.alloc_heap_new (W.alloc (.cells #[.string f0, .bool f1, .int .i64 k, .int .i64 d, .int .i64 i, .int .i64 x, .slice ao 0 ca] 38)) (.cells #[.string g0, .bool f1, .int .i64 k, .int .i64 d, .int .i64 i, .int .i64 x, .slice bo 0 cb] 38)
    rw [World.size_alloc] at this
    exact this
  have HF : Hid (∀ W', Gr W W' → Calls Tryd.prog 35 #[.agg #[.string f0, .bool f1, .int .i64 k, .int .i64 d, .int .i64 i, .int .i64 x, .slice ao 0 ca]] W' fun e w' => e = .returned (.bool true) ∧ Gr W' w') := fun W' g' => hf W' (g.trans g' (fun _ _ h => h))
  have HG : Hid (∀ W', Gr W W' → Calls Tryd.prog 35 #[.agg #[.string g0, .bool f1, .int .i64 k, .int .i64 d, .int .i64 i, .int .i64 x, .slice bo 0 cb]] W' fun e w' => e = .returned (.bool true) ∧ Gr W' w') := fun W' g' => hg W' (g.trans g' (fun _ _ h => h))
  obtain ⟨a0, a1, a2, a3, a4, a5, a6⟩ := cell7 x1
  obtain ⟨b0, b1, b2, b3, b4, b5, b6⟩ := cell7 x2
  have HX := hidM (And.intro x1 (And.intro x2 hg0))
  clear hf hg g x1 x2 hg0
  simp only [Nat.zero_add] at a1 a2 a3 a4 a5 a6 b1 b2 b3 b4 b5 b6
  go_enter Tryd.func17, Tryd.ntmps17
  go_wp2_with (go_at_call 35; refine Hid.out ?_)
  unfold Hid
  refine Calls.mono (HF.out _ HX.out.2.2) ?_
  rintro e W1 ⟨rfl, hg1⟩
  clear a0 a1 a2 a3 a4 a5 a6 b0 b1 b2 b3 b4 b5 b6 hW0
  have x1 := (hg1.block _ (lt_of_heap HX.out.1) (fun h => h)).trans HX.out.1
  have x2 := (hg1.block _ (lt_of_heap HX.out.2.1) (fun h => h)).trans HX.out.2.1
  replace HX := hidM (And.intro x1 (And.intro x2 (HX.out.2.2.trans hg1 (fun _ _ h => h))))
  obtain ⟨b0, b1, b2, b3, b4, b5, b6⟩ := cell7 x2
  simp only [Nat.zero_add] at b1 b2 b3 b4 b5 b6
  clear x1 x2 hg1
  go_wp2_with (go_at_call 35; refine Hid.out ?_)
  unfold Hid
  refine Calls.mono (HG.out _ HX.out.2.2) ?_
  rintro e W2 ⟨rfl, hg1⟩
  clear b0 b1 b2 b3 b4 b5 b6
  have x1 := (hg1.block _ (lt_of_heap HX.out.1) (fun h => h)).trans HX.out.1
  have x2 := (hg1.block _ (lt_of_heap HX.out.2.1) (fun h => h)).trans HX.out.2.1
  replace HX := hidM (And.intro x1 (And.intro x2 (HX.out.2.2.trans hg1 (fun _ _ h => h))))
  obtain ⟨a0, a1, a2, a3, a4, a5, a6⟩ := cell7 x1
  obtain ⟨b0, b1, b2, b3, b4, b5, b6⟩ := cell7 x2
  simp only [Nat.zero_add] at a1 a2 a3 a4 a5 a6 b1 b2 b3 b4 b5 b6
  clear x1 x2 hg1
  go_wp2_with (go_at_call 36; refine Hid.out ?_)
  unfold Hid
  refine Calls.mono (sameTypes_nil k d i x ao bo ca cb W2) ?_
  rintro e W3 ⟨rfl, hg3⟩
  have HE := hidM (HX.out.2.2.trans hg3 (fun _ _ h => h))
  clear hg3
  go_wp2_with fail
  go_ret
  exact ⟨rfl, HE.out⟩
end Go.Proofs.YtjdojbbjbippoaaDoor.Kit
