import Derived.Test.YtkodgneneiledaaGreatDoorGB
namespace Go.Proofs.YtkodgneneiledaaGreatDoor.Kit
open Go.RowKit Go.Shelf Go.Deep
set_option linter.unusedVariables false
attribute [local go_sem] run_store_func

theorem AllR.pre {N L : List LS} {x : LS} (h : AllR N) (hp : L ++ [x] <+: N) : wrongE x L.length (tkL L) = 0 := by
  obtain ⟨r, rfl⟩ := hp
  have := h L.length (by simp)
  simpa using this
theorem AllR.mono {N L : List LS} (h : AllR N) (hp : L <+: N) : AllR L := by
  obtain ⟨r, rfl⟩ := hp
  intro k hk
  have := h k (by simp; omega)
  rw [List.getElem_append_left hk, List.take_append_of_le_length (by omega)] at this
  exact this
theorem first_eq {N L L' : List LS} {x x' : LS} (h : L ++ [x] <+: N) (h' : L' ++ [x'] <+: N) (a : AllR L) (a' : AllR L') (b : wrongE x L.length (tkL L) ≠ 0) (b' : wrongE x' L'.length (tkL L') ≠ 0) : L = L' ∧ x = x' := by
  have key : ∀ {L L' : List LS} {x x' : LS}, L ++ [x] <+: N → L' ++ [x'] <+: N → AllR L' → wrongE x L.length (tkL L) ≠ 0 → ¬ L.length < L'.length := fun {L L' x x'} h h' a' b hlt => by
    have h1 : L ++ [x] <+: L' := List.prefix_of_prefix_length_le h ((List.prefix_append L' [x']).trans h') (by simp; omega)
    exact b (a'.pre h1)
  have hl : L.length = L'.length := by
    have h1 := key h h' a' b
    have h2 := key h' h a b'
    omega
  have := List.prefix_of_prefix_length_le h h' (by simp [hl])
  have e := this.eq_of_length (by simp [hl])
  have := List.append_inj e hl
  exact ⟨this.1, by simpa using this.2⟩

/-- look, where nothing is wrong -/
theorem look_ok {S : Nat → Prop} {D : Nat} {fo no : Option Addr} {cf cn : Nat} {fs : List FT} {ns : List (ByteArray × ByteArray)} {w : World} (hT : Tab w) (hr : RowAt S w D fo fs) (hcf : fs.length ≤ cf) (hD : D ≤ big) (hS : ∀ b, S b → b < w.heap.size) (hn : NotesAt w no ns)
    (hE : (listsE fs.length ns).1 = 0) (hA : AllR (nodes D fs [] false)) : ∀ W, Gr w W →
    Calls Tryz.prog 37 #[.agg #[.slice fo fs.length cf, .slice no ns.length cn]] W fun e w' => ∃ vo vn vc, e = .returned (.tuple #[.agg #[.int .i64 0, .slice vo vn vc, .int .i64 0], .int .i64 ((nodes D fs [] false).length : Int)]) ∧ Gr W w' ∧ True := fun W g => by
  refine (look_walk S D fo no cf cn fs ns W (hT.gr g) (hr.kept fun b h => g.block b (hS b h) id) hcf hD (fun b h => Nat.lt_of_lt_of_le (hS b h) g.size) (hn.gr g)).mono ?_
  rintro e w' ⟨hg, h | h | h⟩
  · exact absurd hE h.1
  · exact ⟨none, 0, 0, h.2.2, hg, trivial⟩
  · obtain ⟨_, L, x, vo, vc, hp, _, hb, _⟩ := h
    exact absurd (hA.pre hp) hb
/-- look, where the first wrong one is known -/
theorem look_bad {S : Nat → Prop} {D : Nat} {fo no : Option Addr} {cf cn : Nat} {fs : List FT} {ns : List (ByteArray × ByteArray)} {w : World} (hT : Tab w) (hr : RowAt S w D fo fs) (hcf : fs.length ≤ cf) (hD : D ≤ big) (hS : ∀ b, S b → b < w.heap.size) (hn : NotesAt w no ns)
    (hE : (listsE fs.length ns).1 = 0) {L : List LS} {x : LS} (hp : L ++ [x] <+: nodes D fs [] false) (hA : AllR L) (hb : wrongE x L.length (tkL L) ≠ 0) : ∀ W, Gr w W →
    Calls Tryz.prog 37 #[.agg #[.slice fo fs.length cf, .slice no ns.length cn]] W fun e w' => ∃ vo vn vc, e = .returned (.tuple #[.agg #[.int .i64 (wrongE x L.length (tkL L)), .slice vo vn vc, .int .i64 0], .int .i64 (L.length : Int)]) ∧ Gr W w' ∧ vn = x.path.length ∧ w'.ownsRow 0 3 1 (.slice vo vn vc) vn (ints x.path) := fun W g => by
  refine (look_walk S D fo no cf cn fs ns W (hT.gr g) (hr.kept fun b h => g.block b (hS b h) id) hcf hD (fun b h => Nat.lt_of_lt_of_le (hS b h) g.size) (hn.gr g)).mono ?_
  rintro e w' ⟨hg, h | h | h⟩
  · exact absurd hE h.1
  · exact absurd (h.2.1.pre hp) hb
  · obtain ⟨_, L', x', vo, vc, hp', hA', hb', he, ho, _⟩ := h
    obtain ⟨rfl, rfl⟩ := first_eq hp hp' hA hA' hb hb'
    exact ⟨vo, _, vc, he, hg, rfl, ho⟩

set_option maxRecDepth 100000 in
set_option maxHeartbeats 2000000 in
theorem check_walk (fo no : Option Addr) (nf cf nn cn : Nat) (er k : Int) (Q : Option Addr → Nat → Nat → World → Prop) (hQ : ∀ vo vn vc A B b c, Q vo vn vc A → A.heap[b]? = some (.cells c 46) → Keeps A B (fun k => k = b) → Q vo vn vc B) (w : World)
    (hl : ∀ W, Gr w W → Calls Tryz.prog 37 #[.agg #[.slice fo nf cf, .slice no nn cn]] W fun e w' => ∃ vo vn vc, e = .returned (.tuple #[.agg #[.int .i64 er, .slice vo vn vc, .int .i64 0], .int .i64 k]) ∧ Gr W w' ∧ Q vo vn vc w') :
    ∀ W, Gr w W → Calls Tryz.prog 12 #[.agg #[.slice fo nf cf, .slice no nn cn]] W fun e w' => ∃ vo vn vc, e = .returned (.agg #[.int .i64 er, .slice vo vn vc, .int .i64 0]) ∧ Gr W w' ∧ Q vo vn vc w' := by
  intro W g
  have HL : Hid (∀ W', Gr W W' → Calls Tryz.prog 37 #[.agg #[.slice fo nf cf, .slice no nn cn]] W' fun e w' => ∃ vo vn vc, e = .returned (.tuple #[.agg #[.int .i64 er, .slice vo vn vc, .int .i64 0], .int .i64 k]) ∧ Gr W' w' ∧ Q vo vn vc w') := fun W' g' => hl W' (g.trans g' (fun _ _ h => h))
  have HQ : Hid _ := hQ
  clear hl g hQ
  have hx2 : ((W.alloc (.cells #[.slice fo nf cf, .slice no nn cn] 27)).alloc (.cells #[.int .i64 0, .slice none 0 0, .int .i64 0] 46)).heap[W.heap.size + 1]? = some (.cells #[.int .i64 0, .slice none 0 0, .int .i64 0] 46) := by
    have := World.alloc_heap_new (W.alloc (.cells #[.slice fo nf cf, .slice no nn cn] 27)) (.cells #[.int .i64 0, .slice none 0 0, .int .i64 0] 46)
    rw [World.size_alloc] at this
    exact this
  have HG0 : Hid (Gr W ((W.alloc (.cells #[.slice fo nf cf, .slice no nn cn] 27)).alloc (.cells #[.int .i64 0, .slice none 0 0, .int .i64 0] 46))) := (gr_alloc W _).alloc _
  have HX := hidM hx2
  clear hx2
  go_enter Tryz.func12, Tryz.ntmps12
  go_wp2_with (go_at_call 37; refine Hid.out ?_)
  unfold Hid
  refine Calls.mono (HL.out _ HG0.out) ?_
  rintro e W1 ⟨vo, vn, vc, rfl, hg1, hq⟩
  have hx3 := (hg1.block _ (lt_of_heap HX.out) (fun h => h)).trans HX.out
  have hx4 : (W1.alloc (.cells #[.int .i64 er, .slice vo vn vc, .int .i64 0] 46)).heap[W.heap.size + 1]? = _ := ((gr_alloc W1 _).block _ (lt_of_heap hx3) (fun h => h)).trans hx3
  obtain ⟨y0, y1, y2⟩ := cell3 hx4
  have y3 := frz hx4 0
  have y4 := frz hx4 1
  have y5 := frz hx4 2
  have e0 := setc (j := 0) hx4 (.int .i64 er)
  have e1 := setc (j := 1) e0 (.slice vo vn vc)
  have e2 := setc (j := 2) e1 (.int .i64 0)
  have k5 : Keeps (W1.alloc (.cells #[.int .i64 er, .slice vo vn vc, .int .i64 0] 46)) _ (fun b => b = W.heap.size + 1) := keep1 (j := 2) (keep1 (j := 1) (keep1 (j := 0) (Keeps.refl (W1.alloc (.cells #[.int .i64 er, .slice vo vn vc, .int .i64 0] 46)) (fun b => b = W.heap.size + 1)) (.int .i64 er)) (.slice vo vn vc)) (.int .i64 0)
  have HE := hidM (And.intro e2 (And.intro k5 (And.intro hg1 (And.intro hq hx3))))
  clear hx3 hx4 e0 e1 e2 k5 hg1 hq
  go_wp2_with fail
  obtain ⟨e2, k5, hg1, hq, hx3⟩ := HE.out
  have hk : Keeps W1 _ (fun b => b = W.heap.size + 1) := (Keeps.trans (S := fun b => b = W.heap.size + 1) ((gr_alloc W1 _).mono fun _ _ h => h.elim) k5 (fun _ _ h => h))
  have hqe := HQ.out _ _ _ _ _ _ _ hq hx3 hk
  have hge := (HG0.out.trans hg1 (fun _ _ h => h)).trans hk (fun j hj h => by omega)
  obtain ⟨v0, v1, v2⟩ := cell3 (e2.trans (by simp : _ = some (Obj.cells #[.int .i64 er, .slice vo vn vc, .int .i64 0] 46 (0, 0))))
  refine bodyPost_ret (v := .agg #[.int .i64 er, .slice vo vn vc, .int .i64 0]) ?_ rfl ⟨vo, vn, vc, rfl, hge, hqe⟩
  simp [results, Tryz.f12, go_sem, v0, v1, v2]
set_option maxRecDepth 100000 in
set_option maxHeartbeats 2000000 in
theorem maybe_walk (fo no : Option Addr) (nf cf nn cn : Nat) (er : Int) (Q : Option Addr → Nat → Nat → World → Prop) (w : World)
    (hl : ∀ W, Gr w W → Calls Tryz.prog 12 #[.agg #[.slice fo nf cf, .slice no nn cn]] W fun e w' => ∃ vo vn vc, e = .returned (.agg #[.int .i64 er, .slice vo vn vc, .int .i64 0]) ∧ Gr W w' ∧ Q vo vn vc w') :
    ∀ W, Gr w W → Calls Tryz.prog 38 #[.agg #[.slice fo nf cf, .slice no nn cn]] W fun e w' => e = .returned (.bool (er == 0)) ∧ Gr W w' := by
  intro W g
  have HL : Hid (∀ W', Gr W W' → Calls Tryz.prog 12 #[.agg #[.slice fo nf cf, .slice no nn cn]] W' fun e w' => ∃ vo vn vc, e = .returned (.agg #[.int .i64 er, .slice vo vn vc, .int .i64 0]) ∧ Gr W' w' ∧ Q vo vn vc w') := fun W' g' => hl W' (g.trans g' (fun _ _ h => h))
  clear hl g
  have hfl : ∀ vo vn vc w, (Instr.field 46 (.agg #[.int .i64 er, .slice vo vn vc, .int .i64 0]) 0).run Tryz.prog w = .ok (.int .i64 er) w := fun vo vn vc w => by kernel_rfl
  go_enter Tryz.func38, Tryz.ntmps38
  go_wp2_with (go_at_call 12; refine Hid.out ?_)
  unfold Hid
  refine Calls.mono (HL.out _ (gr_alloc W _)) ?_
  rintro e W1 ⟨vo, vn, vc, rfl, hg1, hq⟩
  have HE := hidM hg1
  clear hg1 hq
  go_wp2_with fail
  go_ret
  exact ⟨rfl, (gr_alloc W _).trans HE.out (fun _ _ h => h)⟩
set_option maxRecDepth 100000 in
set_option maxHeartbeats 2000000 in
theorem count_walk (fo no : Option Addr) (nf cf nn cn : Nat) (k : Int) (w : World)
    (hl : ∀ W, Gr w W → Calls Tryz.prog 37 #[.agg #[.slice fo nf cf, .slice no nn cn]] W fun e w' => ∃ vo vn vc, e = .returned (.tuple #[.agg #[.int .i64 0, .slice vo vn vc, .int .i64 0], .int .i64 k]) ∧ Gr W w' ∧ True) :
    ∀ W, Gr w W → Calls Tryz.prog 18 #[.agg #[.slice fo nf cf, .slice no nn cn]] W fun e w' => e = .returned (.int .i64 k) ∧ Gr W w' := by
  intro W g
  have HL : Hid (∀ W', Gr W W' → Calls Tryz.prog 37 #[.agg #[.slice fo nf cf, .slice no nn cn]] W' fun e w' => ∃ vo vn vc, e = .returned (.tuple #[.agg #[.int .i64 0, .slice vo vn vc, .int .i64 0], .int .i64 k]) ∧ Gr W' w' ∧ True) := fun W' g' => hl W' (g.trans g' (fun _ _ h => h))
  clear hl g
  go_enter Tryz.func18, Tryz.ntmps18
  go_wp2_with (go_at_call 37; refine Hid.out ?_)
  unfold Hid
  refine Calls.mono (HL.out _ (gr_alloc W _)) ?_
  rintro e W1 ⟨vo, vn, vc, rfl, hg1, -⟩
  have HE := hidM hg1
  clear hg1
  go_wp2_with fail
  go_ret
  exact ⟨rfl, ((gr_alloc W _).trans HE.out (fun _ _ h => h)).alloc _⟩
set_option maxRecDepth 100000 in
set_option maxHeartbeats 2000000 in
theorem find_walk (fo no : Option Addr) (nf cf nn cn : Nat) (nm : ByteArray) (k : Int) (w : World)
    (hl : ∀ W, Gr w W → Calls Tryz.prog 38 #[.agg #[.slice fo nf cf, .slice no nn cn]] W fun e w' => e = .returned (.bool true) ∧ Gr W w')
    (hk : ∀ W, Gr w W → Calls Tryz.prog 46 #[.slice fo nf cf, .string nm] W fun e w' => e = .returned (.int .i64 k) ∧ Gr W w') :
    ∀ W, Gr w W → Calls Tryz.prog 19 #[.agg #[.slice fo nf cf, .slice no nn cn], .string nm] W fun e w' => e = .returned (.int .i64 k) ∧ Gr W w' := by
  intro W g
  have HL : Hid (∀ W', Gr W W' → Calls Tryz.prog 38 #[.agg #[.slice fo nf cf, .slice no nn cn]] W' fun e w' => e = .returned (.bool true) ∧ Gr W' w') := fun W' g' => hl W' (g.trans g' (fun _ _ h => h))
  have HK : Hid (∀ W', Gr W W' → Calls Tryz.prog 46 #[.slice fo nf cf, .string nm] W' fun e w' => e = .returned (.int .i64 k) ∧ Gr W' w') := fun W' g' => hk W' (g.trans g' (fun _ _ h => h))
  clear hl hk g
  have x1 := World.alloc_heap_new W (.cells #[.slice fo nf cf, .slice no nn cn] 27)
  have HX := hidM x1
  clear x1
  go_enter Tryz.func19, Tryz.ntmps19
  go_wp2_with (go_at_call 38; refine Hid.out ?_)
  unfold Hid
  refine Calls.mono (HL.out _ (gr_alloc W _)) ?_
  rintro e W1 ⟨rfl, hg1⟩
  have x1 := (hg1.block _ (lt_of_heap HX.out) (fun h => h)).trans HX.out
  have y0 : W1.cell? ⟨W.heap.size, 0, none⟩ = some (.slice fo nf cf) := by simp [World.cell?, x1]
  have HG := hidM ((gr_alloc W _).trans hg1 (fun _ _ h => h))
  clear x1 hg1 HX
  go_wp2_with (go_at_call 46; refine Hid.out ?_)
  unfold Hid
  refine Calls.mono (HK.out _ HG.out) ?_
  rintro e W2 ⟨rfl, hg2⟩
  have HE := hidM (HG.out.trans hg2 (fun _ _ h => h))
  clear hg2
  go_wp2_with fail
  go_ret
  exact ⟨rfl, HE.out⟩
end Go.Proofs.YtkodgneneiledaaGreatDoor.Kit
