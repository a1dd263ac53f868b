import Derived.Test.YteggcdhibcjneaaGreatDoorGB
import Derived.Test.YteggcdhibcjneaaGreatDoorLE
import Derived.Test.YteggcdhibcjneaaGreatDoorFF
import Derived.Test.YteggcdhibcjneaaGreatDoorGA
import Derived.Test.YteggcdhibcjneaaGreatDoorVB
set_option maxRecDepth 100000
set_option maxHeartbeats 4000000
namespace Go.Proofs.YteggcdhibcjneaaGreatDoor.Kit
open Go.RowKit Go.Shelf Go.Deep
set_option linter.unusedVariables false
attribute [local go_sem] run_store_func
theorem AllR.pre {N L : List LS} {x : LS} (h : AllR N) (hp : L ++ [x] <+: N) : wrongE x L.length (tkL L) = 0 := by
  obtain ⟨r, rfl⟩ := hp
  have := h L.length (by simp)
  simpa using this
theorem first_eq {N L L' : List LS} {x x' : LS} (h : L ++ [x] <+: N) (h' : L' ++ [x'] <+: N) (a : AllR L) (a' : AllR L') (b : wrongE x L.length (tkL L) ≠ 0) (b' : wrongE x' L'.length (tkL L') ≠ 0) : L = L' ∧ x = x' := by
  have key : ∀ {L L' : List LS} {x x' : LS}, L ++ [x] <+: N → L' ++ [x'] <+: N → AllR L' → wrongE x L.length (tkL L) ≠ 0 → ¬ L.length < L'.length := fun {L L' x x'} h h' a' b hlt => by
    have h1 : L ++ [x] <+: L' := List.prefix_of_prefix_length_le h ((List.prefix_append L' [x']).trans h') (by simp; omega)
    exact b (a'.pre h1)
  have hl : L.length = L'.length := by
    have h1 := key h h' a' b
    have h2 := key h' h a b'
    omega
  have := List.prefix_of_prefix_length_le h h' (by simp [hl])
  have e := this.eq_of_length (by simp [hl])
  have := List.append_inj e hl
  exact ⟨this.1, by simpa using this.2⟩

theorem cell7 {W : World} {B t : Nat} {x0 x1 x2 x3 x4 x5 x6 : Value} (h : W.heap[B]? = some (.cells #[x0, x1, x2, x3, x4, x5, x6] t)) : W.cell? ⟨B, 0, none⟩ = some x0 ∧ W.cell? ⟨B, 0 + 1, none⟩ = some x1 ∧ W.cell? ⟨B, 0 + 2, none⟩ = some x2 ∧ W.cell? ⟨B, 0 + 3, none⟩ = some x3 ∧ W.cell? ⟨B, 0 + 4, none⟩ = some x4 ∧ W.cell? ⟨B, 0 + 5, none⟩ = some x5 ∧ W.cell? ⟨B, 0 + 6, none⟩ = some x6 := by simp [World.cell?, h]
theorem alone_any (f0 : ByteArray) (f1 : Bool) (f2 f3 f4 f5 : Int) (ao : Option Addr) (f6 ca : Nat) (w : World) :
    Calls Tryz.prog 105 #[.agg #[.string f0, .bool f1, .int .i64 f2, .int .i64 f3, .int .i64 f4, .int .i64 f5, .slice ao f6 ca]] w fun e w' => ∃ g, e = .returned (.agg #[.slice (some ⟨g, 0, none⟩) 1 1, .slice none 0 0]) ∧ Gr w w' ∧ w.heap.size ≤ g ∧ w'.heap[g]? = some (.cells #[.string f0, .bool f1, .int .i64 f2, .int .i64 f3, .int .i64 f4, .int .i64 f5, .slice ao f6 ca] 47) := by
  go_enter Tryz.func105, Tryz.ntmps105
  go_wp2
  obtain ⟨A, hA⟩ : ∃ A, A = w.alloc (.cells #[.string f0, .bool f1, .int .i64 f2, .int .i64 f3, .int .i64 f4, .int .i64 f5, .slice ao f6 ca] 47) := ⟨_, rfl⟩
  have hsA : A.heap.size = w.heap.size + 1 := by rw [hA]; simp
  rw [← hA]
  have x1 : ((A.alloc (.cells #[.slice (some ⟨w.heap.size + 1 + 1, 0, none⟩) 1 1, .slice none 0 0] 30)).alloc (.cells #[.string f0, .bool f1, .int .i64 f2, .int .i64 f3, .int .i64 f4, .int .i64 f5, .slice ao f6 ca] 47)).heap[w.heap.size + 1]? = some (.cells #[.slice (some ⟨w.heap.size + 1 + 1, 0, none⟩) 1 1, .slice none 0 0] 30) := by
    have := World.alloc_heap_new A (.cells #[.slice (some ⟨w.heap.size + 1 + 1, 0, none⟩) 1 1, .slice none 0 0] 30)
    rw [hsA] at this
    exact (Below.heap_alloc _ _ _ (by simp [hsA])).trans this
  have x2 : ((A.alloc (.cells #[.slice (some ⟨w.heap.size + 1 + 1, 0, none⟩) 1 1, .slice none 0 0] 30)).alloc (.cells #[.string f0, .bool f1, .int .i64 f2, .int .i64 f3, .int .i64 f4, .int .i64 f5, .slice ao f6 ca] 47)).heap[w.heap.size + 1 + 1]? = some (.cells #[.string f0, .bool f1, .int .i64 f2, .int .i64 f3, .int .i64 f4, .int .i64 f5, .slice ao f6 ca] 47) := by
    have := World.alloc_heap_new (A.alloc (.cells #[.slice (some ⟨w.heap.size + 1 + 1, 0, none⟩) 1 1, .slice none 0 0] 30)) (.cells #[.string f0, .bool f1, .int .i64 f2, .int .i64 f3, .int .i64 f4, .int .i64 f5, .slice ao f6 ca] 47)
    rw [World.size_alloc, hsA] at this
    exact this
  have hg : Gr w ((A.alloc (.cells #[.slice (some ⟨w.heap.size + 1 + 1, 0, none⟩) 1 1, .slice none 0 0] 30)).alloc (.cells #[.string f0, .bool f1, .int .i64 f2, .int .i64 f3, .int .i64 f4, .int .i64 f5, .slice ao f6 ca] 47)) := by rw [hA]; exact ((gr_alloc w _).alloc _).alloc _
  generalize ((A.alloc (.cells #[.slice (some ⟨w.heap.size + 1 + 1, 0, none⟩) 1 1, .slice none 0 0] 30)).alloc (.cells #[.string f0, .bool f1, .int .i64 f2, .int .i64 f3, .int .i64 f4, .int .i64 f5, .slice ao f6 ca] 47)) = W5 at *
  have v0 : W5.cell? ⟨w.heap.size + 1, 0, none⟩ = some (.slice (some ⟨w.heap.size + 1 + 1, 0, none⟩) 1 1) := by simp [World.cell?, x1]
  have v1 : W5.cell? ⟨w.heap.size + 1, 1, none⟩ = some (.slice none 0 0) := by simp [World.cell?, x1]
  refine bodyPost_ret (v := .agg #[.slice (some ⟨w.heap.size + 1 + 1, 0, none⟩) 1 1, .slice none 0 0]) ?_ rfl ⟨_, rfl, hg, by omega, x2⟩
  simp [results, Tryz.f105, go_sem, v0, v1]
/-- the row of a field alone -/
theorem row_alone {S : Nat → Prop} {W : World} {d g : Nat} {f : FT} {ao : Option Addr} {ca : Nat} (hg : W.heap[g]? = some (.cells #[.string f.name, .bool f.nul, .int .i64 f.kind, .int .i64 f.width, .int .i64 f.id, .int .i64 f.index, .slice ao f.kids.length ca] 47)) (hr : RowAt S W d ao f.kids) (hca : f.kids.length ≤ ca) :
    RowAt (fun b => S b ∨ b = g) W (d + 1) (some ⟨g, 0, none⟩) [f] := by
  refine ⟨by simp [big], fun _ => ⟨g, 0, rfl, .inr rfl, fun i hi => ?_⟩⟩
  obtain rfl : i = 0 := by simp at hi; omega
  obtain ⟨v0, v1, v2, v3, v4, v5, v6⟩ := cell7 hg
  exact ⟨ao, ca, ⟨v0, v1, v2, v3, v4, v5, v6⟩, hca, hr.mono fun b h => .inl h⟩
theorem AllR.next {N : List LS} {j : Nat} (hj : j < N.length) (h : AllR (N.take j)) (hz : wrongE N[j] j (tkL (N.take j)) = 0) : AllR (N.take (j + 1)) := by
  rw [List.take_succ_eq_append_getElem hj]
  exact h.snoc (by rw [List.length_take, Nat.min_eq_left (by omega)]; exact hz)
theorem row_ne_box {W : World} {t n B : Nat} {v : Value} {xs : List Value} {c : Array Value} (h : W.ownsRow 0 3 1 v n xs) (hB : W.heap[B]? = some (.cells c t)) (ht : t ≠ 3) : v.ownBlock ≠ some B := fun e => by
  rcases h.2 with ⟨rfl, _⟩ | ⟨g, cap, cur, rfl, _, hg, _⟩
  · simp [Value.ownBlock] at e
  · simp [Value.ownBlock] at e
    subst e
    rw [hg] at hB
    simp at hB
    exact ht hB.2.symm

end Go.Proofs.YteggcdhibcjneaaGreatDoor.Kit
namespace Go.Proofs.YteggcdhibcjneaaGreatDoor.Kit
open Go.RowKit Go.Shelf Go.Deep
/-! ### the program's fault and the document's are the same -/
/-- what fault it is: the error, the way, the number -/
def FaultIs (E : Int × Int) (N : List LS) (er : Int) (p : List Nat) (k : Int) : Prop :=
  (E.1 ≠ 0 ∧ er = E.1 ∧ p = [] ∧ k = E.2) ∨ (E.1 = 0 ∧ AllR N ∧ er = 0 ∧ p = [] ∧ k = 0) ∨
  (E.1 = 0 ∧ ∃ L x, (L ++ [x]) <+: N ∧ AllR L ∧ wrongE x L.length (tkL L) ≠ 0 ∧ er = wrongE x L.length (tkL L) ∧ p = x.path ∧ k = 0)
theorem FaultIs.one {E : Int × Int} {N : List LS} {er er' : Int} {p p' : List Nat} {k k' : Int} (h : FaultIs E N er p k) (h' : FaultIs E N er' p' k') : er = er' ∧ p = p' ∧ k = k' := by
  rcases h with ⟨a, rfl, rfl, rfl⟩ | ⟨a, b, rfl, rfl, rfl⟩ | ⟨a, L, x, h1, h2, h3, rfl, rfl, rfl⟩ <;> rcases h' with ⟨a', rfl, rfl, rfl⟩ | ⟨a', b', rfl, rfl, rfl⟩ | ⟨a', L', x', h1', h2', h3', rfl, rfl, rfl⟩
  · exact ⟨rfl, rfl, rfl⟩
  · exact absurd a' a
  · exact absurd a' a
  · exact absurd a a'
  · exact ⟨rfl, rfl, rfl⟩
  · exact absurd (b.pre h1') h3'
  · exact absurd a a'
  · exact absurd (b'.pre h1) h3
  · obtain ⟨rfl, rfl⟩ := first_eq h1 h1' h2 h2' h3 h3'
    exact ⟨rfl, rfl, rfl⟩
end Go.Proofs.YteggcdhibcjneaaGreatDoor.Kit
namespace Go.Proofs.YteggcdhibcjneaaGreatDoor.Kit
open Go.RowKit Go.Shelf Go.Deep
set_option linter.unusedVariables false
attribute [local go_sem] run_store_func
theorem check_walk2 (fo no : Option Addr) (nf cf nn cn : Nat) (Q : Int → Option Addr → Nat → Nat → Int → World → Prop) (hQ : ∀ er vo vn vc tt A B b c, Q er vo vn vc tt A → A.heap[b]? = some (.cells c 61) → Keeps A B (fun k => k = b) → Q er vo vn vc tt B) (w : World)
    (hl : ∀ W, Gr w W → Calls Tryz.prog 31 #[.agg #[.slice fo nf cf, .slice no nn cn]] W fun e w' => ∃ er vo vn vc tt k, e = .returned (.tuple #[.agg #[.int .i64 er, .slice vo vn vc, .int .i64 tt], .int .i64 k]) ∧ Gr W w' ∧ Q er vo vn vc tt w') :
    ∀ W, Gr w W → Calls Tryz.prog 17 #[.agg #[.slice fo nf cf, .slice no nn cn]] W fun e w' => ∃ er vo vn vc tt, e = .returned (.agg #[.int .i64 er, .slice vo vn vc, .int .i64 tt]) ∧ Gr W w' ∧ Q er vo vn vc tt w' := by
  intro W g
  have HL : Hid (∀ W', Gr W W' → Calls Tryz.prog 31 #[.agg #[.slice fo nf cf, .slice no nn cn]] W' fun e w' => ∃ er vo vn vc tt k, e = .returned (.tuple #[.agg #[.int .i64 er, .slice vo vn vc, .int .i64 tt], .int .i64 k]) ∧ Gr W' w' ∧ Q er vo vn vc tt w') := fun W' g' => hl W' (g.trans g' (fun _ _ h => h))
  have HQ : Hid _ := hQ
  clear hl g hQ
  have hx2 : ((W.alloc (.cells #[.slice fo nf cf, .slice no nn cn] 30)).alloc (.cells #[.int .i64 0, .slice none 0 0, .int .i64 0] 61)).heap[W.heap.size + 1]? = some (.cells #[.int .i64 0, .slice none 0 0, .int .i64 0] 61) := by
    have := World.alloc_heap_new (W.alloc (.cells #[.slice fo nf cf, .slice no nn cn] 30)) (.cells #[.int .i64 0, .slice none 0 0, .int .i64 0] 61)
    rw [World.size_alloc] at this
    exact this
  have HG0 : Hid (Gr W ((W.alloc (.cells #[.slice fo nf cf, .slice no nn cn] 30)).alloc (.cells #[.int .i64 0, .slice none 0 0, .int .i64 0] 61))) := (gr_alloc W _).alloc _
  have HX := hidM hx2
  clear hx2
  go_enter Tryz.func17, Tryz.ntmps17
  go_wp2_with (go_at_call 31; refine Hid.out ?_)
  unfold Hid
  refine Calls.mono (HL.out _ HG0.out) ?_
  rintro e W1 ⟨er, vo, vn, vc, tt, k, rfl, hg1, hq⟩
  have hx3 := (hg1.block _ (lt_of_heap HX.out) (fun h => h)).trans HX.out
  have hx4 : (W1.alloc (.cells #[.int .i64 er, .slice vo vn vc, .int .i64 tt] 61)).heap[W.heap.size + 1]? = _ := ((gr_alloc W1 _).block _ (lt_of_heap hx3) (fun h => h)).trans hx3
  obtain ⟨y0, y1, y2⟩ := cell3 hx4
  have y3 := frz hx4 0
  have y4 := frz hx4 1
  have y5 := frz hx4 2
  have e0 := setc (j := 0) hx4 (.int .i64 er)
  have e1 := setc (j := 1) e0 (.slice vo vn vc)
  have e2 := setc (j := 2) e1 (.int .i64 tt)
  have k5 : Keeps (W1.alloc (.cells #[.int .i64 er, .slice vo vn vc, .int .i64 tt] 61)) _ (fun b => b = W.heap.size + 1) := keep1 (j := 2) (keep1 (j := 1) (keep1 (j := 0) (Keeps.refl (W1.alloc (.cells #[.int .i64 er, .slice vo vn vc, .int .i64 tt] 61)) (fun b => b = W.heap.size + 1)) (.int .i64 er)) (.slice vo vn vc)) (.int .i64 tt)
  have HE := hidM (And.intro e2 (And.intro k5 (And.intro hg1 (And.intro hq hx3))))
  clear hx3 hx4 e0 e1 e2 k5 hg1 hq
  go_wp2_with fail
  obtain ⟨e2, k5, hg1, hq, hx3⟩ := HE.out
  have hk : Keeps W1 _ (fun b => b = W.heap.size + 1) := (Keeps.trans (S := fun b => b = W.heap.size + 1) ((gr_alloc W1 _).mono fun _ _ h => h.elim) k5 (fun _ _ h => h))
  have hqe := HQ.out _ _ _ _ _ _ _ _ _ hq hx3 hk
  have hge := (HG0.out.trans hg1 (fun _ _ h => h)).trans hk (fun j hj h => by omega)
  obtain ⟨v0, v1, v2⟩ := cell3 (e2.trans (by simp : _ = some (Obj.cells #[.int .i64 er, .slice vo vn vc, .int .i64 tt] 61 (0, 0))))
  refine bodyPost_ret (v := .agg #[.int .i64 er, .slice vo vn vc, .int .i64 tt]) ?_ rfl ⟨er, vo, vn, vc, tt, rfl, hge, hqe⟩
  simp [results, Tryz.f17, go_sem, v0, v1, v2]

/-- a fault as it is answered -/
def FaultQ (E : Int × Int) (N : List LS) (er : Int) (vo : Option Addr) (vn vc : Nat) (k : Int) (W : World) : Prop := ∃ p : List Nat, p.length = vn ∧ FaultIs E N er p k ∧ W.ownsRow 0 3 1 (.slice vo vn vc) vn (ints p)
theorem FaultQ.kept (E : Int × Int) (N : List LS) (er : Int) (vo : Option Addr) (vn vc : Nat) (k : Int) (A B : World) (b : Nat) (c : Array Value) (h : FaultQ E N er vo vn vc k A) (hb : A.heap[b]? = some (.cells c 61)) (hk : Keeps A B (fun k => k = b)) : FaultQ E N er vo vn vc k B := by
  obtain ⟨p, h1, h2, h3⟩ := h
  exact ⟨p, h1, h2, row_kp h3 fun q e => hk.block q (own_lt h3 q e) fun h => row_ne_box h3 hb (by decide) (by rw [e, h])⟩
/-- the program's -/
theorem check_fault {S : Nat → Prop} {D : Nat} {fo no : Option Addr} {cf cn : Nat} {fs : List FT} {ns : List (ByteArray × ByteArray)} {w : World} (hT : Tab w) (hr : RowAt S w D fo fs) (hcf : fs.length ≤ cf) (hD : D ≤ big) (hS : ∀ b, S b → b < w.heap.size) (hn : NotesAt w no ns) :
    ∀ W, Gr w W → Calls Tryz.prog 17 #[.agg #[.slice fo fs.length cf, .slice no ns.length cn]] W fun e w' => ∃ er vo vn vc tt, e = .returned (.agg #[.int .i64 er, .slice vo vn vc, .int .i64 tt]) ∧ Gr W w' ∧ FaultQ (listsE fs.length ns) (nodes D fs [] false) er vo vn vc tt w' := by
  refine check_walk2 fo no fs.length cf ns.length cn _ (FaultQ.kept _ _) w fun W g => ?_
  refine Calls.mono (look_walk S D fo no cf cn fs ns W (hT.gr g) (hr.kept fun b hb => g.block b (hS b hb) id) hcf hD (fun b hb => by have := hS b hb; have := g.size; omega) (hn.gr g)) ?_
  rintro e w' ⟨hg, h | h | h⟩
  · obtain ⟨h1, rfl⟩ := h
    exact ⟨_, none, 0, 0, _, 0, rfl, hg, [], rfl, .inl ⟨h1, rfl, rfl, rfl⟩, World.ownsRow_nil _ _ _ _⟩
  · obtain ⟨h1, h2, rfl⟩ := h
    exact ⟨0, none, 0, 0, 0, _, rfl, hg, [], rfl, .inr (.inl ⟨h1, h2, rfl, rfl, rfl⟩), World.ownsRow_nil _ _ _ _⟩
  · obtain ⟨h1, L, x, vo, vc, h2, h3, h4, rfl, h5, h6⟩ := h
    exact ⟨_, vo, _, vc, 0, _, rfl, hg, x.path, rfl, .inr (.inr ⟨h1, L, x, h2, h3, h4, rfl, rfl, rfl⟩), h5⟩
/-- a fault without the first number of its way -/
def CutR (w : World) (Q : Int → Option Addr → Nat → Nat → Int → World → Prop) (e : Ending) (w' : World) : Prop :=
  ∃ er vo vn vc tt A vo' vn' vc', Q er vo vn vc tt A ∧ e = .returned (.agg #[.int .i64 er, .slice vo' vn' vc', .int .i64 tt]) ∧ Gr w w' ∧ (∀ q c, q < A.heap.size → A.heap[q]? = some (.cells c 3) → w'.heap[q]? = A.heap[q]?) ∧
    ((vn = 0 ∧ vo' = vo ∧ vn' = vn ∧ vc' = vc) ∨ (0 < vn ∧ ∃ g, vo = some ⟨g, 0, none⟩ ∧ vn' = vn - 1 ∧ (1 < vn → vo' = some ⟨g, 1, none⟩)))
theorem checkField_walk (f0 : ByteArray) (f1 : Bool) (f2 f3 f4 f5 : Int) (ao : Option Addr) (f6 ca : Nat) (w : World) (Q : Int → Option Addr → Nat → Nat → Int → World → Prop)
    (hck : ∀ W g, Gr w W → w.heap.size ≤ g → W.heap[g]? = some (.cells #[.string f0, .bool f1, .int .i64 f2, .int .i64 f3, .int .i64 f4, .int .i64 f5, .slice ao f6 ca] 47) → Calls Tryz.prog 17 #[.agg #[.slice (some ⟨g, 0, none⟩) 1 1, .slice none 0 0]] W fun e w' => ∃ er vo vn vc tt, e = .returned (.agg #[.int .i64 er, .slice vo vn vc, .int .i64 tt]) ∧ Gr W w' ∧ Q er vo vn vc tt w')
    (hpos : ∀ er vo vn vc tt A, Q er vo vn vc tt A → vn ≤ vc ∧ (er = 0 → vn = 0) ∧ (er ≠ 0 → 0 < vn ∧ ∃ g, vo = some ⟨g, 0, none⟩)) :
    Calls Tryz.prog 86 #[.agg #[.string f0, .bool f1, .int .i64 f2, .int .i64 f3, .int .i64 f4, .int .i64 f5, .slice ao f6 ca]] w (CutR w Q) := by
  have HC := hidM hck
  have HP := hidM hpos
  clear hck hpos
  obtain ⟨W0, hW0⟩ : ∃ W0, (w.alloc (.cells #[.string f0, .bool f1, .int .i64 f2, .int .i64 f3, .int .i64 f4, .int .i64 f5, .slice ao f6 ca] 47)).alloc (.cells #[.int .i64 0, .slice none 0 0, .int .i64 0] 61) = W0 := ⟨_, rfl⟩
  have g0 : Gr w W0 := by rw [← hW0]; exact (gr_alloc w _).alloc _
  have r0 : W0.heap[w.heap.size + 1]? = some (.cells #[.int .i64 0, .slice none 0 0, .int .i64 0] 61) := by
    have := World.alloc_heap_new (w.alloc (.cells #[.string f0, .bool f1, .int .i64 f2, .int .i64 f3, .int .i64 f4, .int .i64 f5, .slice ao f6 ca] 47)) (.cells #[.int .i64 0, .slice none 0 0, .int .i64 0] 61)
    rw [World.size_alloc] at this
    rw [← hW0]
    exact this
  have x0 : W0.heap[w.heap.size]? = some (.cells #[.string f0, .bool f1, .int .i64 f2, .int .i64 f3, .int .i64 f4, .int .i64 f5, .slice ao f6 ca] 47) := by
    rw [← hW0]; exact (Below.heap_alloc _ _ _ (by simp)).trans (World.alloc_heap_new w _)
  obtain ⟨v0, v1, v2, v3, v4, v5, v6⟩ := cell7 x0
  simp only [Nat.zero_add] at v1 v2 v3 v4 v5 v6
  have H0 := hidM (And.intro g0 r0)
  clear g0 r0 x0
  go_enter Tryz.func86, Tryz.ntmps86
  go_wp2_with (go_at_call 105; refine Hid.out ?_)
  unfold Hid
  refine Calls.mono (alone_any f0 f1 f2 f3 f4 f5 ao f6 ca W0) ?_
  rintro e W1 ⟨g, rfl, g1, hg, hx⟩
  have HA := HC.out W1 g (H0.out.1.trans g1 (fun _ _ h => h)) (by have := H0.out.1.size; omega) hx
  have H1 : Hid (Gr w W1 ∧ W1.heap[w.heap.size + 1]? = some (.cells #[.int .i64 0, .slice none 0 0, .int .i64 0] 61)) := ⟨H0.out.1.trans g1 (fun _ _ h => h), (g1.block _ (lt_of_heap H0.out.2) id).trans H0.out.2⟩
  have HCA := hidM HA
  clear HA HC H0 g1 hg hx v0 v1 v2 v3 v4 v5 v6 hW0
  go_wp2_with (go_at_call 17; refine Hid.out ?_)
  unfold Hid
  refine Calls.mono HCA.out ?_
  rintro e A ⟨er, vo, vn, vc, tt, rfl, gA, hq⟩
  obtain ⟨p1, p3, p4⟩ := HP.out _ _ _ _ _ _ hq
  obtain ⟨W2, hW2⟩ : ∃ W2, A.alloc (.cells #[.int .i64 er, .slice vo vn vc, .int .i64 tt] 61) = W2 := ⟨_, rfl⟩
  have x2 : W2.heap[A.heap.size]? = some (.cells #[.int .i64 er, .slice vo vn vc, .int .i64 tt] 61) := by rw [← hW2]; exact World.alloc_heap_new A _
  have gA2 : Gr A W2 := by rw [← hW2]; exact gr_alloc A _
  have rA : A.heap[w.heap.size + 1]? = some (.cells #[.int .i64 0, .slice none 0 0, .int .i64 0] 61) := (gA.block _ (lt_of_heap H1.out.2) id).trans H1.out.2
  have r2 : W2.heap[w.heap.size + 1]? = some (.cells #[.int .i64 0, .slice none 0 0, .int .i64 0] 61) := (gA2.block _ (lt_of_heap rA) id).trans rA
  have hXR : A.heap.size ≠ w.heap.size + 1 := by have := lt_of_heap rA; omega
  have gw2 : Gr w W2 := (H1.out.1.trans gA (fun _ _ h => h)).trans gA2 (fun _ _ h => h)
  obtain ⟨c0, c1, c2⟩ := cell3 x2
  obtain ⟨y0, y1, y2⟩ := cell3 r2
  have z1 := frz x2 1
  have y3 := frz r2 0
  have y4 := frz r2 1
  have y5 := frz r2 2
  by_cases he : er = 0
  · subst he
    have HV := hidM (p3 rfl)
    have e3 := setc (j := 2) (setc (j := 1) (setc (j := 0) r2 (.int .i64 0)) (.slice vo vn vc)) (.int .i64 tt)
    have k3 : Keeps W2 _ (fun b => b = w.heap.size + 1) := keep1 (j := 2) (keep1 (j := 1) (keep1 (j := 0) (Keeps.refl W2 (fun b => b = w.heap.size + 1)) (.int .i64 0)) (.slice vo vn vc)) (.int .i64 tt)
    have HE := hidM (And.intro e3 (And.intro k3 (And.intro gw2 (And.intro gA2 (And.intro rA hq)))))
    clear e3 k3 gw2 gA2 rA hq gA x2 r2 z1 p1 p3 p4 HP HCA H1
    go_wp2_with fail
    obtain ⟨e3, k3, gw2, gA2, rA, hq⟩ := HE.out
    obtain ⟨u0, u1, u2⟩ := cell3 (e3.trans (by simp : _ = some (Obj.cells #[.int .i64 0, .slice vo vn vc, .int .i64 tt] 61 (0, 0))))
    refine bodyPost_ret (v := .agg #[.int .i64 0, .slice vo vn vc, .int .i64 tt]) ?_ rfl ⟨0, vo, vn, vc, tt, A, vo, vn, vc, hq, rfl, gw2.trans k3 (fun j hj h => by omega), ?_, .inl ⟨HV.out, rfl, rfl, rfl⟩⟩
    · simp [results, Tryz.f86, go_sem, u0, u1, u2]
    · intro q c hql hqc
      refine (k3.block q (by have := gA2.size; omega) fun h => ?_).trans (gA2.block q hql id)
      rw [h, rA] at hqc
      simp at hqc
  · have heb := beqF he
    obtain ⟨hvp, g', rfl⟩ := p4 he
    have hvI : (1 : Int) ≤ (vn : Int) := by omega
    have hvI2 : (vn : Int) ≤ (vc : Int) := by omega
    have fin : Hid (∀ vo' vc' W5, (1 < vn → vo' = some ⟨g', 1, none⟩) → W5 = (((W2.setCell ⟨A.heap.size, 1, none⟩ (.slice vo' (vn - 1) vc')).setCell ⟨w.heap.size + 1, 0, none⟩ (.int .i64 er)).setCell ⟨w.heap.size + 1, 1, none⟩ (.slice vo' (vn - 1) vc')).setCell ⟨w.heap.size + 1, 2, none⟩ (.int .i64 tt) →
        W5.heap[w.heap.size + 1]? = some (.cells #[.int .i64 er, .slice vo' (vn - 1) vc', .int .i64 tt] 61) ∧ CutR w Q (.returned (.agg #[.int .i64 er, .slice vo' (vn - 1) vc', .int .i64 tt])) W5) := by
      intro vo' vc' W5 hv5 e
      have r3 : (W2.setCell ⟨A.heap.size, 1, none⟩ (.slice vo' (vn - 1) vc')).heap[w.heap.size + 1]? = some (.cells #[.int .i64 0, .slice none 0 0, .int .i64 0] 61) := (heap_setCell_other W2 ⟨A.heap.size, 1, none⟩ _ _ (Ne.symm hXR)).trans r2
      have e3 := setc (j := 2) (setc (j := 1) (setc (j := 0) r3 (.int .i64 er)) (.slice vo' (vn - 1) vc')) (.int .i64 tt)
      rw [← e] at e3
      have k3 : Keeps W2 W5 (fun b => b = A.heap.size ∨ b = w.heap.size + 1) := by
        rw [e]
        exact ((((Keeps.refl W2 _).setCell (p := ⟨A.heap.size, 1, none⟩) (fun _ => .inl rfl) _).setCell (p := ⟨w.heap.size + 1, 0, none⟩) (fun _ => .inr rfl) _).setCell (p := ⟨w.heap.size + 1, 1, none⟩) (fun _ => .inr rfl) _).setCell (p := ⟨w.heap.size + 1, 2, none⟩) (fun _ => .inr rfl) _
      refine ⟨e3.trans (by simp), er, _, vn, vc, tt, A, vo', vn - 1, vc', hq, rfl, gw2.trans k3 (fun j hj h => by have := lt_of_heap rA; have := (H1.out.1.trans gA (fun _ _ h => h)).size; omega), ?_, .inr ⟨hvp, g', rfl, rfl, hv5⟩⟩
      intro q c hql hqc
      refine (k3.block q (by have := gA2.size; omega) fun h => ?_).trans (gA2.block q hql id)
      rcases h with h | h
      · omega
      · rw [h, rA] at hqc
        simp at hqc
    clear gw2 gA2 rA hq gA x2 r2 p3 p4 HP HCA H1
    go_wp2_with fail
    case inl =>
      obtain ⟨e3, hcut⟩ := fin.out (some ⟨g', 0, none⟩) 0 _ (fun h => by omega) rfl
      obtain ⟨u0, u1, u2⟩ := cell3 e3
      refine bodyPost_ret (v := .agg #[.int .i64 er, .slice (some ⟨g', 0, none⟩) (vn - 1) 0, .int .i64 tt]) ?_ rfl hcut
      simp [results, Tryz.f86, go_sem, u0, u1, u2]
    case inr =>
      obtain ⟨e3, hcut⟩ := fin.out (some ⟨g', 1, none⟩) (vc - 1) _ (fun h => rfl) rfl
      obtain ⟨u0, u1, u2⟩ := cell3 e3
      refine bodyPost_ret (v := .agg #[.int .i64 er, .slice (some ⟨g', 1, none⟩) (vn - 1) (vc - 1), .int .i64 tt]) ?_ rfl hcut
      simp [results, Tryz.f86, go_sem, u0, u1, u2]
end Go.Proofs.YteggcdhibcjneaaGreatDoor.Kit
namespace Go.Proofs.YteggcdhibcjneaaGreatDoor.Kit
open Go.RowKit Go.Shelf Go.Deep
theorem nodes_path : ∀ (d : Nat) (l : List FT) (path : List Nat) (inD : Bool) (x : LS), x ∈ nodes d l path inD → path.length < x.path.length
  | 0, _, _, _, _, h => by simp [nodes] at h
  | d + 1, l, path, inD, x, h => by
    rw [nodes] at h
    obtain ⟨i, _, hi⟩ := List.mem_flatMap.1 h
    rcases List.mem_cons.1 hi with rfl | hi
    · simp
    · have := nodes_path d _ _ _ x hi
      simp at this
      omega
/-- the way of a fault of the fields is never empty; without one it is -/
theorem FaultIs.way {d : Nat} {fs : List FT} {er : Int} {p : List Nat} {k : Int} (h : FaultIs (0, 0) (nodes d fs [] false) er p k) : (er = 0 → p = []) ∧ (er ≠ 0 → p ≠ []) := by
  rcases h with ⟨a, _⟩ | ⟨_, _, rfl, rfl, _⟩ | ⟨_, L, x, h1, _, h3, rfl, rfl, _⟩
  · exact absurd rfl a
  · exact ⟨fun _ => rfl, fun h => absurd rfl h⟩
  · refine ⟨fun h => absurd h h3, fun _ e => ?_⟩
    have := nodes_path d fs [] false x (h1.subset (by simp))
    rw [e] at this
    simp at this
theorem ints_tail {W W' : World} {vo vo' : Option Addr} {vn vc : Nat} {p : List Nat} (h : W.ownsRow 0 3 1 (.slice vo vn vc) vn (ints p)) (hl : p.length = vn) (hk : ∀ q c, q < W.heap.size → W.heap[q]? = some (.cells c 3) → W'.heap[q]? = W.heap[q]?)
    (hv : ∃ g, vo = some ⟨g, 0, none⟩ ∧ (1 < vn → vo' = some ⟨g, 1, none⟩)) : IntsAt W' vo' p.tail := by
  intro hne
  have hlt : 1 < vn := by
    cases p with
    | nil => simp at hne
    | cons a t => cases t with
      | nil => simp at hne
      | cons b t => simp at hl; omega
  obtain ⟨g, rfl, hv⟩ := hv
  refine ⟨g, 1, hv hlt, fun j hj => ?_⟩
  have hg : W'.heap[g]? = W.heap[g]? := by
    rcases h.2 with ⟨e, _⟩ | ⟨g', cap, cur, e, _, hgg, _⟩
    · cases e
    · cases e
      exact hk g cur (Array.getElem?_eq_some_iff.1 hgg).1 hgg
  have hj' : j + 1 < p.length := by simp at hj; omega
  rw [World.cell?_of_block (w := W) hg, h.cellAt (1 + j) (by omega)]
  simp [ints, Nat.add_comm 1 j, hj']
/-- a fault as CheckField answers it -/
def FieldR (W : World) (N : List LS) (e : Ending) (w' : World) : Prop := ∃ er p vo vc tt, e = .returned (.agg #[.int .i64 er, .slice vo p.tail.length vc, .int .i64 tt]) ∧ Gr W w' ∧ FaultIs (0, 0) N er p tt ∧ IntsAt w' vo p.tail
theorem CutR.field {w w' : World} {N : List LS} {e : Ending} (h : CutR w (FaultQ (0, 0) N) e w') : FieldR w N e w' := by
  obtain ⟨er, vo, vn, vc, tt, A, vo', vn', vc', ⟨p, h1, h2, h3⟩, rfl, hg, hk, h⟩ := h
  rcases h with ⟨h0, rfl, rfl, rfl⟩ | ⟨hp, g, e1, rfl, e3⟩
  · obtain rfl : p = [] := List.eq_nil_of_length_eq_zero (by omega)
    subst h0
    exact ⟨er, [], vo', vc', tt, rfl, hg, h2, fun h => absurd rfl h⟩
  · refine ⟨er, p, vo', vc', tt, ?_, hg, h2, ints_tail h3 h1 hk ⟨g, e1, e3⟩⟩
    rw [List.length_tail, h1]
theorem own_pos {W : World} {vo : Option Addr} {vn vc : Nat} {xs : List Value} (h : W.ownsRow 0 3 1 (.slice vo vn vc) vn xs) : vn ≤ vc ∧ (0 < vn → ∃ g, vo = some ⟨g, 0, none⟩) := by
  rcases h.2 with ⟨e, h0⟩ | ⟨g, cap, cur, e, _, _, h1, _⟩
  · subst h0; exact ⟨Nat.zero_le _, fun h => absurd h (Nat.lt_irrefl 0)⟩
  · cases e; exact ⟨h1, fun _ => ⟨g, rfl⟩⟩
theorem notes_none (W : World) : NotesAt W none [] := ⟨by simp [big], fun h => absurd rfl h⟩
theorem checkField_any (S : Nat → Prop) (d : Nat) (f : FT) (ao : Option Addr) (ca : Nat) (w : World) (hT : Tab w) (hr : RowAt S w d ao f.kids) (hca : f.kids.length ≤ ca) (hd : d + 1 ≤ big) (hS : ∀ b, S b → b < w.heap.size) :
    Calls Tryz.prog 86 #[.agg #[.string f.name, .bool f.nul, .int .i64 f.kind, .int .i64 f.width, .int .i64 f.id, .int .i64 f.index, .slice ao f.kids.length ca]] w (FieldR w (nodes (d + 1) [f] [] false)) := by
  refine Calls.mono (checkField_walk _ _ _ _ _ _ _ _ _ w (FaultQ (0, 0) (nodes (d + 1) [f] [] false)) ?_ ?_) fun e w' h => h.field
  · intro W g gW hg hx
    have hrow := row_alone hx (hr.kept fun b h => gW.block b (hS b h) id) hca
    have h := check_fault (w := W) (fo := some ⟨g, 0, none⟩) (no := none) (cf := 1) (cn := 0) (fs := [f]) (ns := []) (hT.gr gW) hrow (by simp) hd (fun c h => h.elim (fun h => Nat.lt_of_lt_of_le (hS c h) gW.size) fun h => by rw [h]; exact lt_of_heap hx) (notes_none W) W (Keeps.refl _ _)
    exact h
  · rintro er vo vn vc tt A ⟨p, h1, h2, h3⟩
    have h4 := own_pos h3
    refine ⟨h4.1, fun h => by rw [← h1, h2.way.1 h]; rfl, fun h => ?_⟩
    have : 0 < vn := by rw [← h1]; exact List.length_pos_iff.2 (h2.way.2 h)
    exact ⟨this, h4.2 this⟩
end Go.Proofs.YteggcdhibcjneaaGreatDoor.Kit
namespace Go.Proofs.YteggcdhibcjneaaGreatDoor.Kit
open Go.RowKit Go.Shelf Go.Deep
set_option linter.unusedVariables false
attribute [local go_sem] run_store_func
theorem first_upto (N : List LS) (k : Nat) (hk : k ≤ N.length) : AllR (N.take k) ∨ ∃ L x, (L ++ [x]) <+: N ∧ AllR L ∧ wrongE x L.length (tkL L) ≠ 0 := by
  induction k with
  | zero => exact .inl (by simpa using AllR.nil)
  | succ k ih =>
    rcases ih (by omega) with h | h
    · have hkl : k < N.length := by omega
      have hl : (N.take k).length = k := by rw [List.length_take]; omega
      by_cases hx : wrongE N[k] k (tkL (N.take k)) = 0
      · exact .inl (AllR.next hkl h hx)
      · refine .inr ⟨N.take k, N[k], ?_, h, by rw [hl]; exact hx⟩
        rw [← List.take_succ_eq_append_getElem hkl]; exact List.take_prefix _ _
    · exact .inr h
theorem first_or (N : List LS) : AllR N ∨ ∃ L x, (L ++ [x]) <+: N ∧ AllR L ∧ wrongE x L.length (tkL L) ≠ 0 := by
  have h := first_upto N N.length (Nat.le_refl _)
  rwa [List.take_length] at h
theorem fault_is (E : Int × Int) (N : List LS) : ∃ er p k, FaultIs E N er p k := by
  by_cases h : E.1 = 0
  · rcases first_or N with h1 | ⟨L, x, h1, h2, h3⟩
    · exact ⟨0, [], 0, .inr (.inl ⟨h, h1, rfl, rfl, rfl⟩)⟩
    · exact ⟨_, _, 0, .inr (.inr ⟨h, L, x, h1, h2, h3, rfl, rfl, rfl⟩)⟩
  · exact ⟨_, [], _, .inl ⟨h, rfl, rfl, rfl⟩⟩

/-- a callee that answers a fault of those parts -/
def Tells (w : World) (F : Nat) (v : Value) (er : Int) (p : List Nat) (tt : Int) : Prop := ∀ W, Gr w W → Calls Tryz.prog F #[v] W fun e w' => ∃ vo vc, e = .returned (.agg #[.int .i64 er, .slice vo p.length vc, .int .i64 tt]) ∧ Gr W w' ∧ IntsAt w' vo p
/-! ### leaves of the order -/
/-! ### may a field be -/
theorem mayBe_any {f0 : ByteArray} {f1 : Bool} {f2 f3 f4 f5 : Int} {ao : Option Addr} {n ca : Nat} {w : World} {er : Int} {p : List Nat} {tt : Int} (h : Tells w 86 (.agg #[.string f0, .bool f1, .int .i64 f2, .int .i64 f3, .int .i64 f4, .int .i64 f5, .slice ao n ca]) er p tt) :
    ∀ W, Gr w W → Calls Tryz.prog 145 #[.agg #[.string f0, .bool f1, .int .i64 f2, .int .i64 f3, .int .i64 f4, .int .i64 f5, .slice ao n ca]] W fun e w' => e = .returned (.bool (er == 0)) ∧ Gr W w' := by
  intro W g
  have hfl : ∀ vo vn vc w, (Instr.field 61 (.agg #[.int .i64 er, .slice vo vn vc, .int .i64 tt]) 0).run Tryz.prog w = .ok (.int .i64 er) w := fun vo vn vc w => by kernel_rfl
  have gA := gr_alloc W (.cells #[.string f0, .bool f1, .int .i64 f2, .int .i64 f3, .int .i64 f4, .int .i64 f5, .slice ao n ca] 47)
  have HC := hidM (h _ (g.trans gA (fun _ _ h => h)))
  have HG := hidM gA
  obtain ⟨q, hq⟩ : ∃ q, q = (er == 0) := ⟨_, rfl⟩
  rw [← hq]
  have hq' := hq.symm
  clear h gA g hq
  go_enter Tryz.func145, Tryz.ntmps145
  go_wp2_with (go_at_call 86; refine Hid.out ?_)
  unfold Hid
  refine Calls.mono HC.out ?_
  rintro e w' ⟨vo, vc, rfl, hg, -⟩
  have HG2 := hidM (HG.out.trans hg (fun _ _ h => h))
  clear hg
  go_wp2_with fail
  go_ret
  exact ⟨rfl, HG2.out⟩
end Go.Proofs.YteggcdhibcjneaaGreatDoor.Kit
