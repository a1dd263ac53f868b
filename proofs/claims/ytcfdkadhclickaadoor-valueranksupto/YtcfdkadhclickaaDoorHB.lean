import Derived.Test.YtcfdkadhclickaaDoorGB
namespace Go.Proofs.YtcfdkadhclickaaDoor.Kit
open Go.RowKit Go.Shelf Go.Deep
set_option linter.unusedVariables false
attribute [local go_sem] run_store_func

theorem AllR.pre {N L : List LS} {x : LS} (h : AllR N) (hp : L ++ [x] <+: N) : wrongE x L.length (tkL L) = 0 := by
  obtain ⟨r, rfl⟩ := hp
  have := h L.length (by simp)
  simpa using this
theorem AllR.mono {N L : List LS} (h : AllR N) (hp : L <+: N) : AllR L := by
  obtain ⟨r, rfl⟩ := hp
  intro k hk
  have := h k (by simp; omega)
  rw [List.getElem_append_left hk, List.take_append_of_le_length (by omega)] at this
  exact this
theorem first_eq {N L L' : List LS} {x x' : LS} (h : L ++ [x] <+: N) (h' : L' ++ [x'] <+: N) (a : AllR L) (a' : AllR L') (b : wrongE x L.length (tkL L) ≠ 0) (b' : wrongE x' L'.length (tkL L') ≠ 0) : L = L' ∧ x = x' := by
  have key : ∀ {L L' : List LS} {x x' : LS}, L ++ [x] <+: N → L' ++ [x'] <+: N → AllR L' → wrongE x L.length (tkL L) ≠ 0 → ¬ L.length < L'.length := fun {L L' x x'} h h' a' b hlt => by
    have h1 : L ++ [x] <+: L' := List.prefix_of_prefix_length_le h ((List.prefix_append L' [x']).trans h') (by simp; omega)
    exact b (a'.pre h1)
  have hl : L.length = L'.length := by
    have h1 := key h h' a' b
    have h2 := key h' h a b'
    omega
  have := List.prefix_of_prefix_length_le h h' (by simp [hl])
  have e := this.eq_of_length (by simp [hl])
  have := List.append_inj e hl
  exact ⟨this.1, by simpa using this.2⟩

/-- look, where nothing is wrong -/
theorem look_ok {S : Nat → Prop} {D : Nat} {fo no : Option Addr} {cf cn : Nat} {fs : List FT} {ns : List (ByteArray × ByteArray)} {w : World} (hT : Tab w) (hr : RowAt S w D fo fs) (hcf : fs.length ≤ cf) (hD : D ≤ big) (hS : ∀ b, S b → b < w.heap.size) (hn : NotesAt w no ns)
    (hE : (listsE fs.length ns).1 = 0) (hA : AllR (nodes D fs [] false)) : ∀ W, Gr w W →
    Calls Tryd.prog 88 #[.agg #[.slice fo fs.length cf, .slice no ns.length cn]] W fun e w' => ∃ vo vn vc, e = .returned (.tuple #[.agg #[.int .i64 0, .slice vo vn vc, .int .i64 0], .int .i64 ((nodes D fs [] false).length : Int)]) ∧ Gr W w' ∧ True := fun W g => by
  refine (look_walk S D fo no cf cn fs ns W (hT.gr g) (hr.kept fun b h => g.block b (hS b h) id) hcf hD (fun b h => Nat.lt_of_lt_of_le (hS b h) g.size) (hn.gr g)).mono ?_
  rintro e w' ⟨hg, h | h | h⟩
  · exact absurd hE h.1
  · exact ⟨none, 0, 0, h.2.2, hg, trivial⟩
  · obtain ⟨_, L, x, vo, vc, hp, _, hb, _⟩ := h
    exact absurd (hA.pre hp) hb
/-- look, where the first wrong one is known -/
theorem look_bad {S : Nat → Prop} {D : Nat} {fo no : Option Addr} {cf cn : Nat} {fs : List FT} {ns : List (ByteArray × ByteArray)} {w : World} (hT : Tab w) (hr : RowAt S w D fo fs) (hcf : fs.length ≤ cf) (hD : D ≤ big) (hS : ∀ b, S b → b < w.heap.size) (hn : NotesAt w no ns)
    (hE : (listsE fs.length ns).1 = 0) {L : List LS} {x : LS} (hp : L ++ [x] <+: nodes D fs [] false) (hA : AllR L) (hb : wrongE x L.length (tkL L) ≠ 0) : ∀ W, Gr w W →
    Calls Tryd.prog 88 #[.agg #[.slice fo fs.length cf, .slice no ns.length cn]] W fun e w' => ∃ vo vn vc, e = .returned (.tuple #[.agg #[.int .i64 (wrongE x L.length (tkL L)), .slice vo vn vc, .int .i64 0], .int .i64 (L.length : Int)]) ∧ Gr W w' ∧ vn = x.path.length ∧ w'.ownsRow 0 3 1 (.slice vo vn vc) vn (ints x.path) := fun W g => by
  refine (look_walk S D fo no cf cn fs ns W (hT.gr g) (hr.kept fun b h => g.block b (hS b h) id) hcf hD (fun b h => Nat.lt_of_lt_of_le (hS b h) g.size) (hn.gr g)).mono ?_
  rintro e w' ⟨hg, h | h | h⟩
  · exact absurd hE h.1
  · exact absurd (h.2.1.pre hp) hb
  · obtain ⟨_, L', x', vo, vc, hp', hA', hb', he, ho, _⟩ := h
    obtain ⟨rfl, rfl⟩ := first_eq hp hp' hA hA' hb hb'
    exact ⟨vo, _, vc, he, hg, rfl, ho⟩

set_option maxRecDepth 100000 in
set_option maxHeartbeats 2000000 in
theorem check_walk (fo no : Option Addr) (nf cf nn cn : Nat) (er k : Int) (Q : Option Addr → Nat → Nat → World → Prop) (hQ : ∀ vo vn vc A B b c, Q vo vn vc A → A.heap[b]? = some (.cells c 72) → Keeps A B (fun k => k = b) → Q vo vn vc B) (w : World)
    (hl : ∀ W, Gr w W → Calls Tryd.prog 88 #[.agg #[.slice fo nf cf, .slice no nn cn]] W fun e w' => ∃ vo vn vc, e = .returned (.tuple #[.agg #[.int .i64 er, .slice vo vn vc, .int .i64 0], .int .i64 k]) ∧ Gr W w' ∧ Q vo vn vc w') :
    ∀ W, Gr w W → Calls Tryd.prog 68 #[.agg #[.slice fo nf cf, .slice no nn cn]] W fun e w' => ∃ vo vn vc, e = .returned (.agg #[.int .i64 er, .slice vo vn vc, .int .i64 0]) ∧ Gr W w' ∧ Q vo vn vc w' := by
  intro W g
  have HL : Hid (∀ W', Gr W W' → Calls Tryd.prog 88 #[.agg #[.slice fo nf cf, .slice no nn cn]] W' fun e w' => ∃ vo vn vc, e = .returned (.tuple #[.agg #[.int .i64 er, .slice vo vn vc, .int .i64 0], .int .i64 k]) ∧ Gr W' w' ∧ Q vo vn vc w') := fun W' g' => hl W' (g.trans g' (fun _ _ h => h))
  have HQ : Hid _ := hQ
  clear hl g hQ
  have hx2 : ((W.alloc (.cells #[.slice fo nf cf, .slice no nn cn] 96)).alloc (.cells #[.int .i64 0, .slice none 0 0, .int .i64 0] 72)).heap[W.heap.size + 1]? = some (.cells #[.int .i64 0, .slice none 0 0, .int .i64 0] 72) := by
    have := World.alloc_heap_new (W.alloc (.cells #[.slice fo nf cf, .slice no nn cn] 96)) (.cells #[.int .i64 0, .slice none 0 0, .int .i64 0] 72)
    rw [World.size_alloc] at this
    exact this
  have HG0 : Hid (Gr W ((W.alloc (.cells #[.slice fo nf cf, .slice no nn cn] 96)).alloc (.cells #[.int .i64 0, .slice none 0 0, .int .i64 0] 72))) := (gr_alloc W _).alloc _
  have HX := hidM hx2
  clear hx2
  go_enter Tryd.func68, Tryd.ntmps68
  go_wp2_with (go_at_call 88; refine Hid.out ?_)
  unfold Hid
  refine Calls.mono (HL.out _ HG0.out) ?_
  rintro e W1 ⟨vo, vn, vc, rfl, hg1, hq⟩
  have hx3 := (hg1.block _ (lt_of_heap HX.out) (fun h => h)).trans HX.out
  have hx4 : (W1.alloc (.cells #[.int .i64 er, .slice vo vn vc, .int .i64 0] 72)).heap[W.heap.size + 1]? = _ := ((gr_alloc W1 _).block _ (lt_of_heap hx3) (fun h => h)).trans hx3
  obtain ⟨y0, y1, y2⟩ := cell3 hx4
  have y3 := frz hx4 0
  have y4 := frz hx4 1
  have y5 := frz hx4 2
  have e0 := setc (j := 0) hx4 (.int .i64 er)
  have e1 := setc (j := 1) e0 (.slice vo vn vc)
  have e2 := setc (j := 2) e1 (.int .i64 0)
  have k5 : Keeps (W1.alloc (.cells #[.int .i64 er, .slice vo vn vc, .int .i64 0] 72)) _ (fun b => b = W.heap.size + 1) := keep1 (j := 2) (keep1 (j := 1) (keep1 (j := 0) (Keeps.refl (W1.alloc (.cells #[.int .i64 er, .slice vo vn vc, .int .i64 0] 72)) (fun b => b = W.heap.size + 1)) (.int .i64 er)) (.slice vo vn vc)) (.int .i64 0)
  have HE := hidM (And.intro e2 (And.intro k5 (And.intro hg1 (And.intro hq hx3))))
  clear hx3 hx4 e0 e1 e2 k5 hg1 hq
  go_wp2_with fail
  obtain ⟨e2, k5, hg1, hq, hx3⟩ := HE.out
  have hk : Keeps W1 _ (fun b => b = W.heap.size + 1) := (Keeps.trans (S := fun b => b = W.heap.size + 1) ((gr_alloc W1 _).mono fun _ _ h => h.elim) k5 (fun _ _ h => h))
  have hqe := HQ.out _ _ _ _ _ _ _ hq hx3 hk
  have hge := (HG0.out.trans hg1 (fun _ _ h => h)).trans hk (fun j hj h => by omega)
  obtain ⟨v0, v1, v2⟩ := cell3 (e2.trans (by simp : _ = some (Obj.cells #[.int .i64 er, .slice vo vn vc, .int .i64 0] 72 (0, 0))))
  refine bodyPost_ret (v := .agg #[.int .i64 er, .slice vo vn vc, .int .i64 0]) ?_ rfl ⟨vo, vn, vc, rfl, hge, hqe⟩
  simp [results, Tryd.f68, go_sem, v0, v1, v2]
end Go.Proofs.YtcfdkadhclickaaDoor.Kit
namespace Go.Proofs.YtcfdkadhclickaaDoor.Kit
open Go.RowKit Go.Shelf Go.Deep
set_option linter.unusedVariables false
attribute [local go_sem] run_store_func

theorem cell7 {W : World} {B t : Nat} {x0 x1 x2 x3 x4 x5 x6 : Value} (h : W.heap[B]? = some (.cells #[x0, x1, x2, x3, x4, x5, x6] t)) : W.cell? ⟨B, 0, none⟩ = some x0 ∧ W.cell? ⟨B, 0 + 1, none⟩ = some x1 ∧ W.cell? ⟨B, 0 + 2, none⟩ = some x2 ∧ W.cell? ⟨B, 0 + 3, none⟩ = some x3 ∧ W.cell? ⟨B, 0 + 4, none⟩ = some x4 ∧ W.cell? ⟨B, 0 + 5, none⟩ = some x5 ∧ W.cell? ⟨B, 0 + 6, none⟩ = some x6 := by simp [World.cell?, h]
set_option maxRecDepth 100000 in
set_option maxHeartbeats 2000000 in
theorem alone_any (f0 : ByteArray) (f1 : Bool) (f2 f3 f4 f5 : Int) (ao : Option Addr) (f6 ca : Nat) (w : World) :
    Calls Tryd.prog 69 #[.agg #[.string f0, .bool f1, .int .i64 f2, .int .i64 f3, .int .i64 f4, .int .i64 f5, .slice ao f6 ca]] w fun e w' => ∃ g, e = .returned (.agg #[.slice (some ⟨g, 0, none⟩) 1 1, .slice none 0 0]) ∧ Gr w w' ∧ w.heap.size ≤ g ∧ w'.heap[g]? = some (.cells #[.string f0, .bool f1, .int .i64 f2, .int .i64 f3, .int .i64 f4, .int .i64 f5, .slice ao f6 ca] 26) := by
  go_enter Tryd.func69, Tryd.ntmps69
  go_wp2
  obtain ⟨A, hA⟩ : ∃ A, A = w.alloc (.cells #[.string f0, .bool f1, .int .i64 f2, .int .i64 f3, .int .i64 f4, .int .i64 f5, .slice ao f6 ca] 26) := ⟨_, rfl⟩
  have hsA : A.heap.size = w.heap.size + 1 := by rw [hA]; simp
  rw [← hA]
  have x1 : ((A.alloc (.cells #[.slice (some ⟨w.heap.size + 1 + 1, 0, none⟩) 1 1, .slice none 0 0] 96)).alloc (.cells #[.string f0, .bool f1, .int .i64 f2, .int .i64 f3, .int .i64 f4, .int .i64 f5, .slice ao f6 ca] 26)).heap[w.heap.size + 1]? = some (.cells #[.slice (some ⟨w.heap.size + 1 + 1, 0, none⟩) 1 1, .slice none 0 0] 96) := by
    have := World.alloc_heap_new A (.cells #[.slice (some ⟨w.heap.size + 1 + 1, 0, none⟩) 1 1, .slice none 0 0] 96)
    rw [hsA] at this
    exact (Below.heap_alloc _ _ _ (by simp [hsA])).trans this
  have x2 : ((A.alloc (.cells #[.slice (some ⟨w.heap.size + 1 + 1, 0, none⟩) 1 1, .slice none 0 0] 96)).alloc (.cells #[.string f0, .bool f1, .int .i64 f2, .int .i64 f3, .int .i64 f4, .int .i64 f5, .slice ao f6 ca] 26)).heap[w.heap.size + 1 + 1]? = some (.cells #[.string f0, .bool f1, .int .i64 f2, .int .i64 f3, .int .i64 f4, .int .i64 f5, .slice ao f6 ca] 26) := by
    have := World.alloc_heap_new (A.alloc (.cells #[.slice (some ⟨w.heap.size + 1 + 1, 0, none⟩) 1 1, .slice none 0 0] 96)) (.cells #[.string f0, .bool f1, .int .i64 f2, .int .i64 f3, .int .i64 f4, .int .i64 f5, .slice ao f6 ca] 26)
    rw [World.size_alloc, hsA] at this
    exact this
  have hg : Gr w ((A.alloc (.cells #[.slice (some ⟨w.heap.size + 1 + 1, 0, none⟩) 1 1, .slice none 0 0] 96)).alloc (.cells #[.string f0, .bool f1, .int .i64 f2, .int .i64 f3, .int .i64 f4, .int .i64 f5, .slice ao f6 ca] 26)) := by rw [hA]; exact ((gr_alloc w _).alloc _).alloc _
  generalize ((A.alloc (.cells #[.slice (some ⟨w.heap.size + 1 + 1, 0, none⟩) 1 1, .slice none 0 0] 96)).alloc (.cells #[.string f0, .bool f1, .int .i64 f2, .int .i64 f3, .int .i64 f4, .int .i64 f5, .slice ao f6 ca] 26)) = W5 at *
  have v0 : W5.cell? ⟨w.heap.size + 1, 0, none⟩ = some (.slice (some ⟨w.heap.size + 1 + 1, 0, none⟩) 1 1) := by simp [World.cell?, x1]
  have v1 : W5.cell? ⟨w.heap.size + 1, 1, none⟩ = some (.slice none 0 0) := by simp [World.cell?, x1]
  refine bodyPost_ret (v := .agg #[.slice (some ⟨w.heap.size + 1 + 1, 0, none⟩) 1 1, .slice none 0 0]) ?_ rfl ⟨_, rfl, hg, by omega, x2⟩
  simp [results, Tryd.f69, go_sem, v0, v1]
/-- the row of a field alone -/
theorem row_alone {S : Nat → Prop} {W : World} {d g : Nat} {f : FT} {ao : Option Addr} {ca : Nat} (hg : W.heap[g]? = some (.cells #[.string f.name, .bool f.nul, .int .i64 f.kind, .int .i64 f.width, .int .i64 f.id, .int .i64 f.index, .slice ao f.kids.length ca] 26)) (hr : RowAt S W d ao f.kids) (hca : f.kids.length ≤ ca) :
    RowAt (fun b => S b ∨ b = g) W (d + 1) (some ⟨g, 0, none⟩) [f] := by
  refine ⟨by simp [big], fun _ => ⟨g, 0, rfl, .inr rfl, fun i hi => ?_⟩⟩
  obtain rfl : i = 0 := by simp at hi; omega
  obtain ⟨v0, v1, v2, v3, v4, v5, v6⟩ := cell7 hg
  exact ⟨ao, ca, ⟨v0, v1, v2, v3, v4, v5, v6⟩, hca, hr.mono fun b h => .inl h⟩
end Go.Proofs.YtcfdkadhclickaaDoor.Kit
