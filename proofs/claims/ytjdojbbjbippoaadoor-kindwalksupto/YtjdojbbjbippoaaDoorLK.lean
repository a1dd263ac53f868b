import Derived.Test.YtjdojbbjbippoaaDoorLJ
namespace Go.Proofs.YtjdojbbjbippoaaDoor.Kit
open Go.RowKit Go.Shelf Go.Deep
set_option linter.unusedVariables false
attribute [local go_sem] run_store_func

set_option maxRecDepth 100000 in
set_option maxHeartbeats 2000000 in
theorem check_walk2 (fo no : Option Addr) (nf cf nn cn : Nat) (Q : Int → Option Addr → Nat → Nat → Int → World → Prop) (hQ : ∀ er vo vn vc tt A B b c, Q er vo vn vc tt A → A.heap[b]? = some (.cells c 48) → Keeps A B (fun k => k = b) → Q er vo vn vc tt B) (w : World)
    (hl : ∀ W, Gr w W → Calls Tryd.prog 30 #[.agg #[.slice fo nf cf, .slice no nn cn]] W fun e w' => ∃ er vo vn vc tt k, e = .returned (.tuple #[.agg #[.int .i64 er, .slice vo vn vc, .int .i64 tt], .int .i64 k]) ∧ Gr W w' ∧ Q er vo vn vc tt w') :
    ∀ W, Gr w W → Calls Tryd.prog 13 #[.agg #[.slice fo nf cf, .slice no nn cn]] W fun e w' => ∃ er vo vn vc tt, e = .returned (.agg #[.int .i64 er, .slice vo vn vc, .int .i64 tt]) ∧ Gr W w' ∧ Q er vo vn vc tt w' := by
  intro W g
  have HL : Hid (∀ W', Gr W W' → Calls Tryd.prog 30 #[.agg #[.slice fo nf cf, .slice no nn cn]] W' fun e w' => ∃ er vo vn vc tt k, e = .returned (.tuple #[.agg #[.int .i64 er, .slice vo vn vc, .int .i64 tt], .int .i64 k]) ∧ Gr W' w' ∧ Q er vo vn vc tt w') := fun W' g' => hl W' (g.trans g' (fun _ _ h => h))
  have HQ : Hid _ := hQ
  clear hl g hQ
  have hx2 : ((W.alloc (.cells #[.slice fo nf cf, .slice no nn cn] 25)).alloc (.cells #[.int .i64 0, .slice none 0 0, .int .i64 0] 48)).heap[W.heap.size + 1]? = some (.cells #[.int .i64 0, .slice none 0 0, .int .i64 0] 48) := by
    have := World.alloc_heap_new (W.alloc (.cells #[.slice fo nf cf, .slice no nn cn] 25)) (.cells #[.int .i64 0, .slice none 0 0, .int .i64 0] 48)
    rw [World.size_alloc] at this
    exact this
  have HG0 : Hid (Gr W ((W.alloc (.cells #[.slice fo nf cf, .slice no nn cn] 25)).alloc (.cells #[.int .i64 0, .slice none 0 0, .int .i64 0] 48))) := (gr_alloc W _).alloc _
  have HX := hidM hx2
  clear hx2
  go_enter Tryd.func13, Tryd.ntmps13
  go_wp2_with (go_at_call 30; refine Hid.out ?_)
  unfold Hid
  refine Calls.mono (HL.out _ HG0.out) ?_
  rintro e W1 ⟨er, vo, vn, vc, tt, k, rfl, hg1, hq⟩
  have hx3 := (hg1.block _ (lt_of_heap HX.out) (fun h => h)).trans HX.out
  have hx4 : (W1.alloc (.cells #[.int .i64 er, .slice vo vn vc, .int .i64 tt] 48)).heap[W.heap.size + 1]? = _ := ((gr_alloc W1 _).block _ (lt_of_heap hx3) (fun h => h)).trans hx3
  obtain ⟨y0, y1, y2⟩ := cell3 hx4
  have y3 := frz hx4 0
  have y4 := frz hx4 1
  have y5 := frz hx4 2
  have e0 := setc (j := 0) hx4 (.int .i64 er)
  have e1 := setc (j := 1) e0 (.slice vo vn vc)
  have e2 := setc (j := 2) e1 (.int .i64 tt)
  have k5 : Keeps (W1.alloc (.cells #[.int .i64 er, .slice vo vn vc, .int .i64 tt] 48)) _ (fun b => b = W.heap.size + 1) := keep1 (j := 2) (keep1 (j := 1) (keep1 (j := 0) (Keeps.refl (W1.alloc (.cells #[.int .i64 er, .slice vo vn vc, .int .i64 tt] 48)) (fun b => b = W.heap.size + 1)) (.int .i64 er)) (.slice vo vn vc)) (.int .i64 tt)
  have HE := hidM (And.intro e2 (And.intro k5 (And.intro hg1 (And.intro hq hx3))))
  clear hx3 hx4 e0 e1 e2 k5 hg1 hq
  go_wp2_with fail
  obtain ⟨e2, k5, hg1, hq, hx3⟩ := HE.out
  have hk : Keeps W1 _ (fun b => b = W.heap.size + 1) := (Keeps.trans (S := fun b => b = W.heap.size + 1) ((gr_alloc W1 _).mono fun _ _ h => h.elim) k5 (fun _ _ h => h))
  have hqe := HQ.out _ _ _ _ _ _ _ _ _ hq hx3 hk
  have hge := (HG0.out.trans hg1 (fun _ _ h => h)).trans hk (fun j hj h => by omega)
  obtain ⟨v0, v1, v2⟩ := cell3 (e2.trans (by simp : _ = some (Obj.cells #[.int .i64 er, .slice vo vn vc, .int .i64 tt] 48 (0, 0))))
  refine bodyPost_ret (v := .agg #[.int .i64 er, .slice vo vn vc, .int .i64 tt]) ?_ rfl ⟨er, vo, vn, vc, tt, rfl, hge, hqe⟩
  simp [results, Tryd.f13, go_sem, v0, v1, v2]

/-- a fault as it is answered -/
def FaultQ (E : Int × Int) (N : List LS) (er : Int) (vo : Option Addr) (vn vc : Nat) (k : Int) (W : World) : Prop := ∃ p : List Nat, p.length = vn ∧ FaultIs E N er p k ∧ W.ownsRow 0 3 1 (.slice vo vn vc) vn (ints p)
theorem FaultQ.kept (E : Int × Int) (N : List LS) (er : Int) (vo : Option Addr) (vn vc : Nat) (k : Int) (A B : World) (b : Nat) (c : Array Value) (h : FaultQ E N er vo vn vc k A) (hb : A.heap[b]? = some (.cells c 48)) (hk : Keeps A B (fun k => k = b)) : FaultQ E N er vo vn vc k B := by
  obtain ⟨p, h1, h2, h3⟩ := h
  exact ⟨p, h1, h2, row_kp h3 fun q e => hk.block q (own_lt h3 q e) fun h => row_ne_box h3 hb (by decide) (by rw [e, h])⟩
/-- the program's -/
theorem check_fault {S : Nat → Prop} {D : Nat} {fo no : Option Addr} {cf cn : Nat} {fs : List FT} {ns : List (ByteArray × ByteArray)} {w : World} (hT : Tab w) (hr : RowAt S w D fo fs) (hcf : fs.length ≤ cf) (hD : D ≤ big) (hS : ∀ b, S b → b < w.heap.size) (hn : NotesAt w no ns) :
    ∀ W, Gr w W → Calls Tryd.prog 13 #[.agg #[.slice fo fs.length cf, .slice no ns.length cn]] W fun e w' => ∃ er vo vn vc tt, e = .returned (.agg #[.int .i64 er, .slice vo vn vc, .int .i64 tt]) ∧ Gr W w' ∧ FaultQ (listsE fs.length ns) (nodes D fs [] false) er vo vn vc tt w' := by
  refine check_walk2 fo no fs.length cf ns.length cn _ (FaultQ.kept _ _) w fun W g => ?_
  refine Calls.mono (look_walk S D fo no cf cn fs ns W (hT.gr g) (hr.kept fun b hb => g.block b (hS b hb) id) hcf hD (fun b hb => by have := hS b hb; have := g.size; omega) (hn.gr g)) ?_
  rintro e w' ⟨hg, h | h | h⟩
  · obtain ⟨h1, rfl⟩ := h
    exact ⟨_, none, 0, 0, _, 0, rfl, hg, [], rfl, .inl ⟨h1, rfl, rfl, rfl⟩, World.ownsRow_nil _ _ _ _⟩
  · obtain ⟨h1, h2, rfl⟩ := h
    exact ⟨0, none, 0, 0, 0, _, rfl, hg, [], rfl, .inr (.inl ⟨h1, h2, rfl, rfl, rfl⟩), World.ownsRow_nil _ _ _ _⟩
  · obtain ⟨h1, L, x, vo, vc, h2, h3, h4, rfl, h5, h6⟩ := h
    exact ⟨_, vo, _, vc, 0, _, rfl, hg, x.path, rfl, .inr (.inr ⟨h1, L, x, h2, h3, h4, rfl, rfl, rfl⟩), h5⟩
/-- the document's -/
theorem checkR_fault {S : Nat → Prop} {D : Nat} {fo no : Option Addr} {cf cn : Nat} {fs : List FT} {ns : List (ByteArray × ByteArray)} {w : World} (hr : RowAt S w D fo fs) (hcf : fs.length ≤ cf) (hS : ∀ b, S b → b < w.heap.size) (hn : NotesAt w no ns) :
    ∀ W, Gr w W → Calls Tryd.prog 18 #[.agg #[.slice fo fs.length cf, .slice no ns.length cn]] W fun e w' => ∃ er vo vn vc tt, e = .returned (.agg #[.int .i64 er, .slice vo vn vc, .int .i64 tt]) ∧ Gr W w' ∧ FaultQ (listsE fs.length ns) (grown [] (nodesC D fs [] false)) er vo vn vc tt w' := by
  intro W g
  refine Calls.mono (checkR_any S D fo no fs.length cf cn fs ns W rfl (hr.kept fun b hb => g.block b (hS b hb) id) hcf (fun b hb => by have := hS b hb; have := g.size; omega) (hn.gr g)) ?_
  rintro e w' ⟨hg, h | h | h⟩
  · obtain ⟨h1, rfl⟩ := h
    exact ⟨_, none, 0, 0, _, rfl, hg, [], rfl, .inl ⟨h1, rfl, rfl, rfl⟩, World.ownsRow_nil _ _ _ _⟩
  · obtain ⟨h1, h2, rfl⟩ := h
    exact ⟨0, none, 0, 0, 0, rfl, hg, [], rfl, .inr (.inl ⟨h1, h2, rfl, rfl, rfl⟩), World.ownsRow_nil _ _ _ _⟩
  · obtain ⟨h1, L, x, vo, vc, h2, h3, h4, rfl, h5⟩ := h
    exact ⟨_, vo, _, vc, 0, rfl, hg, x.path, rfl, .inr (.inr ⟨h1, L, x, h2, h3, h4, rfl, rfl, rfl⟩), h5⟩
end Go.Proofs.YtjdojbbjbippoaaDoor.Kit
