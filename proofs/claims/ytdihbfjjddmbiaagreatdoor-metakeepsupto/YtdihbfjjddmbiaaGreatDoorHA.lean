import Derived.Test.YtdihbfjjddmbiaaGreatDoorGA
set_option maxRecDepth 100000
set_option maxHeartbeats 4000000
namespace Go.Proofs.YtdihbfjjddmbiaaGreatDoor.Kit
open Go.RowKit Go.Shelf Go.Deep
set_option linter.unusedVariables false
attribute [local go_sem] Oper.semAt_some run_store_func
theorem set31 {W : World} {R R' : Nat} {z0 z1 z2 z3 : Value} (u0 u1 u2 u3 : Value) (hR : R' ≠ R) (h2 : W.heap[R]? = some (.cells #[z0, z1, z2] 67)) (h3 : W.heap[R']? = some (.cells #[z3] 3)) :
    ((((W.setCell ⟨R, 0, none⟩ u0).setCell ⟨R, 1, none⟩ u1).setCell ⟨R, 2, none⟩ u2).setCell ⟨R', 0, none⟩ u3).heap[R]? = some (.cells #[u0, u1, u2] 67) ∧
    ((((W.setCell ⟨R, 0, none⟩ u0).setCell ⟨R, 1, none⟩ u1).setCell ⟨R, 2, none⟩ u2).setCell ⟨R', 0, none⟩ u3).heap[R']? = some (.cells #[u3] 3) ∧
    Keeps W ((((W.setCell ⟨R, 0, none⟩ u0).setCell ⟨R, 1, none⟩ u1).setCell ⟨R, 2, none⟩ u2).setCell ⟨R', 0, none⟩ u3) (fun b => b = R ∨ b = R') := by
  have e0 := setc (j := 0) h2 u0
  have e1 := setc (j := 1) e0 u1
  have e2 := setc (j := 2) e1 u2
  have ho : ∀ b, b ≠ R → (((W.setCell ⟨R, 0, none⟩ u0).setCell ⟨R, 1, none⟩ u1).setCell ⟨R, 2, none⟩ u2).heap[b]? = W.heap[b]? := fun b hb => by
    rw [heap_setCell_other _ ⟨R, 2, none⟩ b _ hb, heap_setCell_other _ ⟨R, 1, none⟩ b _ hb, heap_setCell_other _ ⟨R, 0, none⟩ b _ hb]
  have e3 := setc (j := 0) ((ho R' hR).trans h3) u3
  refine ⟨?_, ?_, ?_⟩
  · rw [heap_setCell_other _ ⟨R', 0, none⟩ R _ (fun e => hR e.symm), e2]; simp
  · rw [e3]; simp
  exact ((keep1 (keep1 (keep1 (Keeps.refl W _) _) _) _).mono fun _ _ h => .inl h).setCell (p := ⟨R', 0, none⟩) (fun _ => .inr rfl) u3
theorem cell1 {W : World} {B t : Nat} {x : Value} (h : W.heap[B]? = some (.cells #[x] t)) : W.cell? ⟨B, 0, none⟩ = some x := by simp [World.cell?, h]
theorem wpListIn_load_row {F : Fence} {n : Nat} {P : Program} {ops : Array Oper} {rest : List Oper} {o : Oper} {a : Act} {w : World} {Q : Exit → Act → World → Prop} (hgd : o.guard = none) (ty : TypeId) (x : Operand) (ho : o.op = .load ty x)
    (g : Nat) (hx : a.eval x = .pointer (some ⟨g, 0, none⟩)) (t : TypeId) (cs : Array Value) (fr : Nat × Nat) (d : TypeDesc) (hg : w.heap[g]? = some (.cells cs t fr))
    (hu : P.underlying ty = some d) (hd : (match d with | .struct _ | .array _ _ => true | _ => false) = true) (hi : (P.info? ty).map (·.size) = some cs.size)
    (h : wpListIn F n P ops Q rest (a.put o.dst (.agg cs)) w) : wpListIn F n P ops Q (o :: rest) a w := by
  refine wpListIn_plain hgd fun K hK => ?_
  unfold Oper.wpIn
  refine ⟨by simp [Oper.about, ho], ?_⟩
  rw [Oper.semAt_plain F _ _ (by rw [ho]; intro c hc'; cases hc')]
  simp only [execOp, ho, hx, Instr.loadAt, Instr.sureAddr, Sem.run_bind, Sem.run_pure, Result.andThen_ok, run_loadVar_row w g t ty cs fr d hg hu hd hi]
  exact hK _ _ h
theorem wr_tab {m : Nat} {ah : Int} {nR : Bool} {idx i : Int} {tb nl d : Bool} {k : Int} {kd tk : Bool} (h : wr m ah nR idx i tb nl d k kd tk = 0) : tb = true := by
  cases tb with
  | true => rfl
  | false =>
    unfold wr at h
    by_cases a1 : 64 < m
    · rw [if_pos a1] at h; omega
    rw [if_neg a1] at h
    by_cases a2 : 256 ≤ ah
    · rw [if_pos a2] at h; omega
    rw [if_neg a2] at h
    by_cases a3 : nR = false
    · rw [if_pos a3] at h; omega
    rw [if_neg a3] at h
    by_cases a4 : idx ≠ i
    · rw [if_pos a4] at h; omega
    rw [if_neg a4, if_pos rfl] at h; omega
def LookR (w : World) (E : Int × Int) (N : List LS) (e : Ending) (w' : World) : Prop := Gr w w' ∧
  ((E.1 ≠ 0 ∧ e = .returned (.tuple #[fltV E.1 (.slice none 0 0) E.2, .int .i64 0])) ∨
   (E.1 = 0 ∧ AllR N ∧ e = .returned (.tuple #[fltV 0 (.slice none 0 0) 0, .int .i64 N.length])) ∨
   (E.1 = 0 ∧ ∃ L x vo vc, (L ++ [x]) <+: N ∧ AllR L ∧ wrongE x L.length (tkL L) ≠ 0 ∧ e = .returned (.tuple #[fltV (wrongE x L.length (tkL L)) (.slice vo x.path.length vc) 0, .int .i64 L.length]) ∧
      w'.ownsRow 0 3 1 (.slice vo x.path.length vc) x.path.length (ints x.path) ∧ ∀ g, (Value.slice vo x.path.length vc).ownBlock = some g → w.heap.size ≤ g))
theorem look_walk (S : Nat → Prop) (D : Nat) (fo no : Option Addr) (cf cn : Nat) (fs : List FT) (ns : List (ByteArray × ByteArray)) (w : World) (hT : Tab w) (hr : RowAt S w D fo fs) (hcf : fs.length ≤ cf) (hD : D ≤ big) (hS : ∀ b, S b → b < w.heap.size) (hn : NotesAt w no ns) :
    Calls Tryz.prog 52 #[schV fo no fs.length cf ns.length cn] w fun e w' => LookR w (listsE fs.length ns) (nodes D fs [] false) e w' := by
  have HT : Hid _ := hT
  have HR : Hid _ := hr
  have HS : Hid _ := hS
  have HN : Hid (∀ W, Gr w W → Calls Tryz.prog 66 #[.agg #[.slice fo fs.length cf, .slice no ns.length cn]] W fun e w' => e = .returned (fltV (listsE fs.length ns).1 (.slice none 0 0) (listsE fs.length ns).2) ∧ Gr W w') := fun W g => lists_any fo no fs.length cf cn ns W (hn.gr g)
  unfold schV
  unfold fltV at *
  obtain ⟨E, hE⟩ : ∃ E, E = listsE fs.length ns := ⟨_, rfl⟩
  rw [← hE] at HN ⊢
  clear hE hn hT hr hS
  obtain ⟨W0, hW0⟩ := ex (((w.alloc (.cells #[.slice fo fs.length cf, .slice no ns.length cn] 25)).alloc (.cells #[.int .i64 0, .slice none 0 0, .int .i64 0] 67)).alloc (.cells #[.int .i64 0] 3))
  have hs0 : ((w.alloc (.cells #[.slice fo fs.length cf, .slice no ns.length cn] 25)).alloc (.cells #[.int .i64 0, .slice none 0 0, .int .i64 0] 67)).heap.size = w.heap.size + 2 := by simp
  have HG0 : Hid (Gr w W0) := by rw [← hW0]; exact ((gr_alloc w _).alloc _).alloc _
  have x1 : W0.heap[w.heap.size]? = some (.cells #[.slice fo fs.length cf, .slice no ns.length cn] 25) := by
    rw [← hW0]
    exact (Below.heap_alloc _ _ _ (by simp; omega)).trans ((Below.heap_alloc _ _ _ (by simp)).trans (World.alloc_heap_new w _))
  have x2 : W0.heap[w.heap.size + 1]? = some (.cells #[.int .i64 0, .slice none 0 0, .int .i64 0] 67) := by
    rw [← hW0]
    have := World.alloc_heap_new (w.alloc (.cells #[.slice fo fs.length cf, .slice no ns.length cn] 25)) (.cells #[.int .i64 0, .slice none 0 0, .int .i64 0] 67)
    rw [World.size_alloc] at this
    exact (Below.heap_alloc _ _ _ (by simp)).trans this
  have x3 : W0.heap[w.heap.size + 2]? = some (.cells #[.int .i64 0] 3) := by
    rw [← hW0]
    have := World.alloc_heap_new ((w.alloc (.cells #[.slice fo fs.length cf, .slice no ns.length cn] 25)).alloc (.cells #[.int .i64 0, .slice none 0 0, .int .i64 0] 67)) (.cells #[.int .i64 0] 3)
    rw [hs0] at this
    exact this
  obtain ⟨p0, p1⟩ := ce2 x1
  have HX : Hid _ := And.intro x1 (And.intro x2 x3)
  clear x1 x2 x3 hs0
  refine (callsIn_wide (n := 10)).1 ?_
  refine callsIn_of_wp_marks Tryz.func52 rfl trivial ?_ rfl
  simp only [Tryz.ntmps52, List.size_toArray, List.length_cons, List.length_nil, Nat.reduceAdd, Nat.reduceSub, Array.replicate_succ, Array.replicate_zero, List.push_toArray, List.append_toArray, List.nil_append, List.cons_append]
  refine wpIn_wide.2 ?_
  go_wp2_with fail
  rw [show w.heap.size + 1 + 1 = w.heap.size + 2 from rfl]
  refine Calls.mono (HN.out W0 HG0.out) ?_
  rintro e W1 ⟨rfl, hg1⟩
  obtain ⟨W2, hW2⟩ := ex (W1.alloc (.cells #[.int .i64 E.1, .slice none 0 0, .int .i64 E.2] 67))
  have hg2 : Gr W0 W2 := by rw [← hW2]; exact hg1.alloc _
  have HG2 : Hid (Gr w W2) := HG0.out.tr hg2
  have x1 := (hg2.block _ (lt_of_heap HX.out.1) (fun h => h)).trans HX.out.1
  have x2 := (hg2.block _ (lt_of_heap HX.out.2.1) (fun h => h)).trans HX.out.2.1
  have x3 := (hg2.block _ (lt_of_heap HX.out.2.2) (fun h => h)).trans HX.out.2.2
  have x4 : W2.heap[W1.heap.size]? = some (.cells #[.int .i64 E.1, .slice none 0 0, .int .i64 E.2] 67) := by rw [← hW2]; exact World.alloc_heap_new W1 _
  have hw1 : w.heap.size + 3 ≤ W1.heap.size := by have := lt_of_heap HX.out.2.2; have := hg1.size; omega
  obtain ⟨c1, c2, c3⟩ := cell3 x4
  clear p0 p1 hW0 HN
  replace HX := hidM (And.intro x1 (And.intro x2 x3))
  obtain ⟨E1, E2⟩ := E
  by_cases hE : E1 = 0
  · subst hE
    have p0 : W2.cell? ⟨w.heap.size, 0, none⟩ = some (.slice fo fs.length cf) := by simp [World.cell?, x1]
    clear x1 x2 x3 x4 hg1 hg2
    obtain ⟨W3, hW3⟩ := ex ((W2.alloc (.cells #[.int .i64 0] 3)).alloc (.cells #[.bool false, .bool false, .bool false, .bool false, .bool false, .bool false, .bool false, .bool false, .bool false, .bool false, .bool false, .bool false, .bool false, .bool false, .bool false, .bool false, .bool false, .bool false, .bool false, .bool false, .bool false, .bool false, .bool false, .bool false, .bool false, .bool false, .bool false, .bool false, .bool false, .bool false, .bool false, .bool false] 114))
    have p1 : W3.cell? ⟨w.heap.size, 0, none⟩ = some (.slice fo fs.length cf) := by rw [← hW3]; exact ((gr_alloc W2 _).alloc _).cell' p0 (fun h => h)
    go_wp2_with (go_at_call 67; refine Hid.out ?_)
    unfold Hid
    refine (each_any _ fo fs.length cf rfl W3).mono ?_
    rintro e W4 ⟨rfl, hW4⟩
    have hz3 : W3.heap.size = W2.heap.size + 2 := by rw [← hW3]; simp
    have hz2 : w.heap.size + 3 ≤ W2.heap.size := by rw [← hW2]; simp; omega
    have hg4 : Gr W2 W4 := by rw [hW4, ← hW3]; exact ((gr_alloc W2 _).alloc _).alloc _
    have hz4 : W4.heap.size = W2.heap.size + 3 := by rw [hW4]; simp [hz3]
    have h0 : LI w W4 W2.heap.size (w.heap.size + 1) [] := by
      refine ⟨HG2.out.tr hg4, ?_, ?_, (hg4.block _ (lt_of_heap HX.out.2.1) (fun h => h)).trans HX.out.2.1, (hg4.block _ (lt_of_heap HX.out.2.2) (fun h => h)).trans HX.out.2.2, AllR.nil⟩
      · rw [hW4, ← hW3]
        exact (Below.heap_alloc _ _ _ (by simp; omega)).trans ((Below.heap_alloc _ _ _ (by simp)).trans (World.alloc_heap_new W2 _))
      rw [hW4, ← hW3]
      have := World.alloc_heap_new (W2.alloc (.cells #[.int .i64 0] 3)) (.cells #[.bool false, .bool false, .bool false, .bool false, .bool false, .bool false, .bool false, .bool false, .bool false, .bool false, .bool false, .bool false, .bool false, .bool false, .bool false, .bool false, .bool false, .bool false, .bool false, .bool false, .bool false, .bool false, .bool false, .bool false, .bool false, .bool false, .bool false, .bool false, .bool false, .bool false, .bool false, .bool false] 114)
      rw [World.size_alloc] at this
      exact (Below.heap_alloc _ _ _ (by simp)).trans this
    have hv : W4.cell? ⟨W3.heap.size, 0, none⟩ = some (.slice fo fs.length cf) := by rw [hW4]; exact cell_new W3 _ 22
    have hseq := each1_seq (10 - 1) W3.heap.size S D fo cf fs W4 hv (HR.out.kept fun b h => (HG2.out.tr hg4).block b (HS.out b h) id) hcf hD (fun b h => by have := HS.out b h; omega)
    have hSW : ∀ b, S b → b < w.heap.size := HS.out
    have hTW : Tab w := HT.out
    clear hW2 hW3 hW4 hg4 p0 p1 c1 c2 c3 hv HX
    generalize W1.heap.size = X at *
    obtain ⟨A, hA⟩ : ∃ A, A = W2.heap.size := ⟨_, rfl⟩
    rw [← hA] at h0 hz4 hz3 hz2 ⊢
    rw [hz3] at hseq ⊢
    clear hA HG2 hz3
    go_wp2_with fail
    refine (wpIn_wide (n := 10)).1 ?_
    refine rangeX (by decide) (gf := 83) (lb := #[.pointer (some ⟨A + 2, 0, none⟩)]) rfl (enters_of Tryz.func83 (by kernel_rfl) rfl) hseq (fun _ => rfl) (fun b h => by have := hSW b h; omega)
      (fun O pre x A B h k => ⟨h.row.kept fun b hb => k b (.inl hb), h.le, h.ix, own_kp h.way fun g e => k g (.inr (by cases e; exact h.wO)), h.wO, h.deep⟩)
      (fun b => b = A ∨ b = A + 1 ∨ b = w.heap.size + 1 ∨ b = w.heap.size + 2) (fun b h => ⟨by omega, fun hs => by have := hSW b hs; omega⟩)
      (fun pre W => LI w W A (w.heap.size + 1) (pre.map Spot.ls)) (fun pre Y Z h hz hb => h.kept (gr_below h.gr (by omega) hb) fun b hbb => hb.block b (by omega))
      (fun c pre W => c = .ret ∧ ∃ L x vo vc, LX w W (w.heap.size + 1) (A + 3 + 2) (pre.map Spot.ls) L x vo vc)
      (fun c pre Y Z h hk => by
        obtain ⟨h1, L, x, vo, vc, h2⟩ := h
        refine ⟨h1, L, x, vo, vc, h2.kept (h2.gr.trans hk (fun j hj h => by omega)) fun b hb => hk.block b ?_ (fun h => by omega)⟩
        rcases hb with rfl | rfl | hb
        · exact lt_of_heap h2.r2
        · exact lt_of_heap h2.r3
        exact hb.2)
      h0
      (fun x a' W => ∃ Bx, W.heap[Bx]? = some (.cells #[.slice x.ao x.list.length x.ca, .slice (some ⟨x.wb, 0, none⟩) x.path.length x.wc, .bool x.inD] 119) ∧ Bx ≠ W4.heap.size + 1 ∧ A + 3 + 2 ≤ Bx ∧
        a' = { tmps := #[.agg #[.slice fo fs.length cf, .slice no ns.length cn], .pointer (some ⟨w.heap.size, 0, none⟩), .pointer (some ⟨w.heap.size + 1, 0, none⟩), .pointer (some ⟨w.heap.size + 2, 0, none⟩), .pointer (some ⟨X, 0, none⟩), .pointer (some ⟨A, 0, none⟩), .pointer (some ⟨A + 1, 0, none⟩), .pointer (some ⟨Bx, 0, none⟩), undef, undef, .agg #[.slice fo fs.length cf, .slice no ns.length cn], .agg #[.int .i64 0, .slice none 0 0, .int .i64 E2], .pointer (some ⟨X, 0, none⟩), .int .i64 0, .bool false, undef, .pointer (some ⟨w.heap.size, 0, none⟩), .slice fo fs.length cf, .func (.func 83) #[] #[.pointer (some ⟨A + 2, 0, none⟩)], .agg #[.slice x.ao x.list.length x.ca, .slice (some ⟨x.wb, 0, none⟩) x.path.length x.wc, .bool x.inD], undef, undef, undef, undef, undef, undef, undef, undef, undef, undef, undef, undef, undef, undef, undef, undef, undef, undef, undef, undef, undef, undef, undef, undef, undef], defers := [] })
      (fun x a' Y Z h hk => by
        obtain ⟨Bx, h1, h2, h3, h4⟩ := h
        exact ⟨Bx, (hk.block Bx (lt_of_heap h1) h2).trans h1, h2, h3, h4⟩)
      ?assign ?body ?done ?stop
    case assign =>
      intro l x W K hz hK
      unfold encS
      gi_wp2
      refine hK _ _ (gr_alloc W _) ⟨W.heap.size, World.alloc_heap_new W _, by omega, by omega, rfl⟩
    case body =>
      rintro l O pre x a' W hi hat ⟨Bx, hbx, -, hBx, rfl⟩ hO hz
      have hSl : ∀ b, S b → b < W.heap.size := fun b h => by have := hSW b h; have := hi.gr.size; omega
      have hTt : Tab W := hTW.gr hi.gr
      have hmap : (pre ++ [x]).map Spot.ls = pre.map Spot.ls ++ [x.ls] := by simp
      rw [show (fun (pre : List Spot) W => LI w W A (w.heap.size + 1) (pre.map Spot.ls)) = fun pre W => LI w W A (w.heap.size + 1) (pre.map Spot.ls) from rfl]
      have hlen := hi.ok.len
      obtain ⟨P, hP⟩ : ∃ P, P = pre.map Spot.ls := ⟨_, rfl⟩
      rw [← hP] at hi hmap hlen
      have hcall := wrong_any x S O (tkL P) P.length W hat hTt hSl
      obtain ⟨er, her⟩ : ∃ er, er = wrongE x.ls P.length (tkL P) := ⟨_, rfl⟩
      rw [← her] at hcall
      have HI := hidM hi
      obtain ⟨t, ht⟩ : ∃ t, t = tkL P := ⟨_, rfl⟩
      rw [← ht] at hcall
      have hiT : W.heap[A + 1]? = some (.cells (tkA t) 114) := by rw [ht]; exact hi.t
      obtain ⟨n, hn⟩ : ∃ n, n = P.length := ⟨_, rfl⟩
      rw [← hn] at hcall hlen
      have q0 : W.cell? ⟨A, 0, none⟩ = some (.int .i64 (n : Int)) := by rw [hn]; exact cell1 hi.a
      obtain ⟨b0, b1, b2⟩ := cell3 hbx
      have hinf : (Tryz.prog.info? 114).map (·.size) = some (tkA t).size := by kernel_rfl
      have HL := hidM (And.intro hiT hinf)
      clear hinf hiT
      have HC : Hid (Calls Tryz.prog 68 #[.agg #[.slice x.ao x.list.length x.ca, .slice (some ⟨x.wb, 0, none⟩) x.path.length x.wc, .bool x.inD], .int .i64 (n : Int), .agg (tkA t)] W fun e w' => e = .returned (.int .i64 er) ∧ Gr W w') := hcall
      have HQ : Hid (P = pre.map Spot.ls ∧ er = wrongE x.ls P.length (tkL P) ∧ t = tkL P ∧ n = P.length) := ⟨hP, her, ht, hn⟩
      have HM := hidM hmap
      have HB := hidM (And.intro hbx (And.intro hat hSl))
      clear hcall hi hbx hat hSl hTt hmap hP her ht hn hseq h0
      gi_wp2_with (refine wpListIn_load_row rfl 114 (.tmp 6) rfl (A + 1) rfl 114 (tkA t) (0, 0) _ HL.out.1 Tryz.underlying114 rfl HL.out.2 ?_)
      refine ⟨trivial, CallsIn.mono (CallsIn.inRound l (callsIn_wide.2 HC.out)) ?_⟩
      rintro e v1 ⟨rfl, hg1⟩
      clear HL q0 b0 b1 b2 HC
      obtain ⟨f, fb, fo', fi, fm, ao', ca', hf, -, -, -, -, -⟩ := HB.out.2.1.f
      have hbx1 := (hg1.block _ (lt_of_heap HB.out.1) (fun h => h)).trans HB.out.1
      obtain ⟨b0, b1, b2⟩ := cell3 hbx1
      have ha1 := (hg1.block _ (lt_of_heap HI.out.a) (fun h => h)).trans HI.out.a
      have ht1 := (hg1.block _ (lt_of_heap HI.out.t) (fun h => h)).trans HI.out.t
      have hr2 := (hg1.block _ (lt_of_heap HI.out.r2) (fun h => h)).trans HI.out.r2
      have hr3 := (hg1.block _ (lt_of_heap HI.out.r3) (fun h => h)).trans HI.out.r3
      by_cases h0 : er = 0
      · have hfld := field_any x f fb fo' fi fm ao' ca' v1 (hf.gr hg1)
        have HFL : Hid (Calls Tryz.prog 70 #[.agg #[.slice x.ao x.list.length x.ca, .slice (some ⟨x.wb, 0, none⟩) x.path.length x.wc, .bool x.inD]] v1 fun e w' => e = .returned (.agg #[.string f.name, .bool f.nul, .int .i64 f.kind, .int .i64 f.width, .int .i64 f.id, .int .i64 f.index, .slice ao' f.kids.length ca']) ∧ Gr v1 w') := hfld
        have HG1 := hidM hg1
        have H1 := hidM (And.intro ha1 (And.intro ht1 (And.intro hr2 hr3)))
        have HF := hidM hf
        clear hfld hf hg1 hbx1 ha1 ht1 hr2 hr3
        gi_wp2_with fail
        refine ⟨trivial, CallsIn.mono (CallsIn.inRound l (callsIn_wide.2 HFL.out)) ?_⟩
        rintro e v2 ⟨rfl, hg2⟩
        clear b0 b1 b2 HFL
        obtain ⟨v3, hv3⟩ := ex (v2.alloc (.cells #[.int .i64 f.kind, .int .i64 f.width, .int .i64 f.id, .int .i64 f.index, .slice ao' f.kids.length ca'] 50))
        have hg3 : Gr v1 v3 := by rw [← hv3]; exact hg2.alloc _
        have hbt : v3.heap[v2.heap.size]? = some (.cells #[.int .i64 f.kind, .int .i64 f.width, .int .i64 f.id, .int .i64 f.index, .slice ao' f.kids.length ca'] 50) := by rw [← hv3]; exact World.alloc_heap_new v2 _
        have c0 : v3.cell? ⟨v2.heap.size, 0, none⟩ = some (.int .i64 f.kind) := by simp [World.cell?, hbt]
        have c2 : v3.cell? ⟨v2.heap.size, 2, none⟩ = some (.int .i64 f.id) := by simp [World.cell?, hbt]
        have ha := (hg3.block _ (lt_of_heap H1.out.1) (fun h => h)).trans H1.out.1
        have htk := (hg3.block _ (lt_of_heap H1.out.2.1) (fun h => h)).trans H1.out.2.1
        have hr2 := (hg3.block _ (lt_of_heap H1.out.2.2.1) (fun h => h)).trans H1.out.2.2.1
        have hr3 := (hg3.block _ (lt_of_heap H1.out.2.2.2) (fun h => h)).trans H1.out.2.2.2
        have hfi : x.ls.fld = f := by
          obtain ⟨p, hp⟩ : ∃ p, x.path = p ++ [fi] := by
            obtain ⟨f', _, _, i', m', _, _, hf', _, _, _, p, hp⟩ := HB.out.2.1.f
            have e1 := HF.out.len; have e2 := HF.out.wc; have e3 := hf'.len; have e4 := hf'.wc
            have : m' = fm := by omega
            subst this
            rw [e2] at e4
            simp at e4
            have e5 : fi = i' := by omega
            exact ⟨p, by rw [hp, e5]⟩
          show (x.list[x.path.getLastD 0]?).getD default = f
          rw [hp]; simp [HF.out.fe]
        obtain ⟨q1, q2, q3, q4⟩ := HQ.out
        have hG : Gr w v3 := (HI.out.gr.tr HG1.out).tr hg3
        have hKW : Gr W v3 := HG1.out.tr hg3
        have hok : AllR (P ++ [x.ls]) := HI.out.ok.snoc (by rw [← q2]; exact h0)
        have d1 : v3.cell? ⟨A, 0, none⟩ = some (.int .i64 (n : Int)) := by rw [q4]; exact cell1 ha
        have d2 := frz ha 0
        have HV := hidM (And.intro ha (And.intro htk (And.intro hr2 (And.intro hr3 (And.intro hG (And.intro hKW hok))))))
        have HFI := hidM hfi
        have HTB : Hid (f.kind = 19 → ∃ k : Nat, k < 32 ∧ f.id = k) := fun hk => by
          have h1 : wrongE x.ls P.length (tkL P) = 0 := by rw [← q2]; exact h0
          have h2 : tableB f = true := by
            unfold wrongE at h1
            rw [hfi] at h1
            exact wr_tab h1
          have := (tab_kids h2).1 hk
          exact ⟨f.id.toNat, by omega, by omega⟩
        have hend : ∀ W5 t', W5.heap[A]? = some (.cells #[.int .i64 ((n : Int) + 1)] 3) → W5.heap[A + 1]? = some (.cells (tkA t') 114) → (∀ m, t' m = tkL (P ++ [x.ls]) m) → Keeps v3 W5 (fun b => b = A ∨ b = A + 1) → Keeps W W5 (fun b => b = A ∨ b = A + 1 ∨ b = w.heap.size + 1 ∨ b = w.heap.size + 2) ∧ LI w W5 A (w.heap.size + 1) ((pre ++ [x]).map Spot.ls) := by
          intro W5 t' h1 h2 h3 hk
          refine ⟨(hKW.mono fun _ _ h => h.elim).trans hk (fun j hj h => by omega), ?_⟩
          rw [HM.out]
          refine ⟨hG.trans hk (fun j hj h => by omega), ?_, ?_, (hk.block _ (lt_of_heap hr2) (fun h => by omega)).trans hr2, (hk.block _ (lt_of_heap hr3) (fun h => by omega)).trans hr3, hok⟩
          · rw [h1, q4]; simp
          rw [h2, show t' = tkL (P ++ [x.ls]) from funext h3]
        have HEND := hidM hend
        clear hend hG hKW hok hr2 hr3 ha htk hbt hg2 hg3 hfi q1 q2 q3 q4
        by_cases h19 : f.kind = 19
        · obtain ⟨k, hk32, hfk⟩ := HTB.out h19
          have g1 : v3.cell? ⟨A + 1, k, none⟩ = some (.bool (t k)) := by rw [cell_of_row _ _ k _ _ _ HV.out.2.1, HQ.out.2.2.1]; exact tkA_get _ k hk32
          have g2 : v3.frozen? ⟨A + 1, k, none⟩ = false := frz HV.out.2.1 k
          have g3 : (v3.setCell ⟨A + 1, k, none⟩ (.bool true)).cell? ⟨A, 0, none⟩ = some (.int .i64 (n : Int)) := by rw [World.cell?_of_block (w := v3) (heap_setCell_other v3 ⟨A + 1, k, none⟩ A _ (by simp))]; exact d1
          have g4 : (v3.setCell ⟨A + 1, k, none⟩ (.bool true)).frozen? ⟨A, 0, none⟩ = false := by rw [World.frozen?_setCell]; exact d2
          rw [h19] at c0
          rw [hfk] at c2
          have HFK := hidM (And.intro h19 hfk)
          clear h19 hfk HTB d1
          rw [HFK.out.1, HFK.out.2] at hv3
          have hfl : ∀ w, (Instr.field 52 (.agg #[.string f.name, .bool f.nul, .int .i64 19, .int .i64 f.width, .int .i64 (k : Int), .int .i64 f.index, .slice ao' f.kids.length ca']) 2).run Tryz.prog w = .ok (.agg #[.int .i64 19, .int .i64 f.width, .int .i64 (k : Int), .int .i64 f.index, .slice ao' f.kids.length ca']) w := fun w => by kernel_rfl
          rw [HFK.out.1, HFK.out.2]
          gi_wp2
          have e1 := setc (j := k) HV.out.2.1 (.bool true)
          rw [tkA_set _ k hk32] at e1
          have e2 := setc (j := 0) ((heap_setCell_other v3 ⟨A + 1, k, none⟩ A (.bool true) (by simp)).trans HV.out.1) (.int .i64 ((n : Int) + 1))
          refine HEND.out _ _ (by rw [e2]; simp) ((heap_setCell_other _ ⟨A, 0, none⟩ (A + 1) _ (by simp)).trans e1) (fun m => ?_) (((Keeps.refl v3 _).setCell (p := ⟨A + 1, k, none⟩) (fun _ => .inr rfl) _).setCell (p := ⟨A, 0, none⟩) (fun _ => .inl rfl) _)
          rw [tkL_snoc, HFI.out, HFK.out.1, HFK.out.2]; simp
        have h19' := beqF h19
        have hfl : ∀ w, (Instr.field 52 (.agg #[.string f.name, .bool f.nul, .int .i64 f.kind, .int .i64 f.width, .int .i64 f.id, .int .i64 f.index, .slice ao' f.kids.length ca']) 2).run Tryz.prog w = .ok (.agg #[.int .i64 f.kind, .int .i64 f.width, .int .i64 f.id, .int .i64 f.index, .slice ao' f.kids.length ca']) w := fun w => by kernel_rfl
        have HF19 := hidM h19
        clear HTB h19
        gi_wp2
        have e2 := setc (j := 0) HV.out.1 (.int .i64 ((n : Int) + 1))
        refine HEND.out _ _ (by rw [e2]; simp) ((heap_setCell_other _ ⟨A, 0, none⟩ (A + 1) _ (by simp)).trans HV.out.2.1) (fun m => ?_) ((Keeps.refl v3 _).setCell (p := ⟨A, 0, none⟩) (fun _ => .inl rfl) _)
        rw [tkL_snoc, HFI.out]; simp [HF19.out]
      have hne : (er != 0) = true := by simpa using h0
      have hpl : x.path.length ≤ 1000000000000 := by have := HB.out.2.1.deep; unfold big at this; exact this
      have HCL : Hid (∀ W, Gr v1 W → Calls Tryz.prog 69 #[.slice (some ⟨x.wb, 0, none⟩) x.path.length x.wc] W fun e w' => ∃ vo vc, e = .returned (.slice vo x.path.length vc) ∧ w'.ownsRow 0 3 1 (.slice vo x.path.length vc) x.path.length (ints x.path) ∧ Gr W w' ∧ (∀ g, (Value.slice vo x.path.length vc).ownBlock = some g → W.heap.size ≤ g)) := fun W g =>
        clone_any x.wb x.path.length x.wc x.path rfl HB.out.2.1.deep W (own_kp HB.out.2.1.way fun g' e => (hg1.tr g).block g' (own_lt HB.out.2.1.way g' e) id)
      have d1 : v1.cell? ⟨A, 0, none⟩ = some (.int .i64 (n : Int)) := by rw [HQ.out.2.2.2]; exact cell1 ha1
      have HF2 : Hid (∀ W, Gr v1 W → W.cell? ⟨A, 0, none⟩ = some (.int .i64 (n : Int)) ∧ W.heap[w.heap.size + 1]? = some (.cells #[.int .i64 0, .slice none 0 0, .int .i64 0] 67) ∧ W.heap[w.heap.size + 2]? = some (.cells #[.int .i64 0] 3)) := fun W g =>
        ⟨g.cell' d1 (fun h => h), (g.block _ (lt_of_heap hr2) (fun h => h)).trans hr2, (g.block _ (lt_of_heap hr3) (fun h => h)).trans hr3⟩
      have HG1 := hidM hg1
      have HEX : Hid (∀ v2 vo vc, Gr v1.drew v2 → v2.ownsRow 0 3 1 (.slice vo x.path.length vc) x.path.length (ints x.path) → (∀ g, (Value.slice vo x.path.length vc).ownBlock = some g → v1.drew.heap.size ≤ g) →
          Keeps W ((((v2.setCell ⟨w.heap.size + 1, 0, none⟩ (.int .i64 er)).setCell ⟨w.heap.size + 1, 1, none⟩ (.slice vo x.path.length vc)).setCell ⟨w.heap.size + 1, 2, none⟩ (.int .i64 0)).setCell ⟨w.heap.size + 2, 0, none⟩ (.int .i64 (n : Int))) (fun b => b = A ∨ b = A + 1 ∨ b = w.heap.size + 1 ∨ b = w.heap.size + 2) ∧
          (∃ L x' vo' vc', LX w ((((v2.setCell ⟨w.heap.size + 1, 0, none⟩ (.int .i64 er)).setCell ⟨w.heap.size + 1, 1, none⟩ (.slice vo x.path.length vc)).setCell ⟨w.heap.size + 1, 2, none⟩ (.int .i64 0)).setCell ⟨w.heap.size + 2, 0, none⟩ (.int .i64 (n : Int))) (w.heap.size + 1) (A + 3 + 2) ((pre ++ [x]).map Spot.ls) L x' vo' vc')) := by
        intro v2 vo vc hg2 ho hnew
        have hg12 : Gr v1 v2 := (gr_drew).tr hg2
        obtain ⟨-, z2, z3⟩ := HF2.out v2 hg12
        obtain ⟨e2, e3, k5⟩ := set31 (.int .i64 er) (.slice vo x.path.length vc) (.int .i64 0) (.int .i64 (n : Int)) (show w.heap.size + 2 ≠ w.heap.size + 1 by omega) z2 z3
        have hWv : Gr W v2 := hg1.tr hg12
        obtain ⟨q1, q2, q3, q4⟩ := HQ.out
        have hnz : A + 3 + 2 ≤ v1.heap.size := by have := hg1.size; have h9 := hz; rw [hz4] at h9; omega
        refine ⟨(hWv.mono fun _ _ h => h.elim).trans k5 (fun j hj h => by omega), P, x.ls, vo, vc, HM.out, HI.out.ok, by rw [← q2]; exact h0, (HI.out.gr.tr hWv).trans k5 (fun j hj h => by omega), by rw [← q2]; exact e2, by rw [← q4]; exact e3, own_kp ho fun g e => k5.block g (own_lt ho g e) (fun h => by have h8 : v1.heap.size ≤ g := hnew g e; omega), fun g e => by have h8 : v1.heap.size ≤ g := hnew g e; omega⟩
      have hmix : Tryz.prog.follows .mixedOrders = true := by kernel_rfl
      clear hbx1 ha1 ht1 hr2 hr3 hf
      gi_wp2_with fail
      gi_region_with_o (refine ⟨trivial, ?_⟩; gi_at_call 69; refine CallsIn.mono (CallsIn.inRound l (callsIn_wide.2 (HCL.out _ (by first | exact Keeps.refl _ _ | exact gr_drew)))) ?_; rintro e v2 ⟨vo, vc, rfl, ho, hg2, hnew⟩; obtain ⟨z1, z2, z3⟩ := HF2.out v2 (by first | exact hg2 | exact (gr_drew).tr hg2); obtain ⟨y0, y1, y2⟩ := cell3 z2; have y3 := frz z2 0; have y4 := frz z2 1; have y5 := frz z2 2; have y6 := cell1 z3; have y7 := frz z3 0; have HZ := hidM (And.intro z2 z3); have HO := hidM ho; have HG2 := hidM hg2; have HNW := hidM hnew; clear z2 z3 ho hg2 hnew)
      all_goals
        gi_wp2
        have h := HEX.out _ _ _ HG2.out HO.out HNW.out
        exact ⟨h.1, rfl, h.2⟩
    case done =>
      rintro xs W hx hi hz hd
      rw [hz4] at hz hd ⊢
      have hA0 : W.cell? ⟨A, 0, none⟩ = some (.int .i64 ((xs.map Spot.ls).length : Int)) := by simp [World.cell?, hi.a]
      obtain ⟨y0, y1, y2⟩ := cell3 hi.r2
      obtain ⟨y3, y4, y5⟩ := fz3 hi.r2
      have y6 : W.cell? ⟨w.heap.size + 2, 0, none⟩ = some (.int .i64 0) := by simp [World.cell?, show W.heap[w.heap.size + 2]? = _ from hi.r3]
      have y7 : W.frozen? ⟨w.heap.size + 2, 0, none⟩ = false := frz hi.r3 0
      have HI := hidM hi
      have HD := hidM hd
      rw [hx] at hA0 HI
      clear hi hd hx
      go_wp2_with fail
      go_region
      obtain ⟨e2, e3, k5⟩ := set31 (.int .i64 0) (.slice none 0 0) (.int .i64 0) (.int .i64 ((nodes D fs [] false).length : Int)) (show w.heap.size + 2 ≠ w.heap.size + 1 by omega) HI.out.r2 HI.out.r3
      generalize (((W.setCell ⟨w.heap.size + 1, 0, none⟩ (.int .i64 0)).setCell ⟨w.heap.size + 1, 1, none⟩ (.slice none 0 0)).setCell ⟨w.heap.size + 1, 2, none⟩ (.int .i64 0)).setCell ⟨w.heap.size + 2, 0, none⟩ (.int .i64 ((nodes D fs [] false).length : Int)) = W5 at *
      have hd5 : W5.drew.heap[(A + 3)]? = some (.deferred (some [])) := (k5.block _ (lt_of_heap HD.out) (fun h => by omega)).trans HD.out
      have HG5 : Hid (Gr w (W5.drew.putObj (A + 3) (.deferred none))) := ((HI.out.gr.trans k5 (fun j hj h => by omega)).drew).trans (T := fun k => k = (A + 3)) (keeps_put _ _ _) (fun j hj h => by have := HI.out.gr.size; omega)
      have t0 : (W5.drew.putObj (A + 3) (.deferred none)).heap[w.heap.size + 1]? = _ := (World.putObj_heap_other (by omega)).trans e2
      have t1 : (W5.drew.putObj (A + 3) (.deferred none)).heap[w.heap.size + 2]? = _ := (World.putObj_heap_other (by omega)).trans e3
      obtain ⟨v0, v1, v2⟩ := cell3 t0
      have v3 := cell1 t1
      have HOK := hidM HI.out.ok
      clear k5 e2 e3 y0 y1 y2 y3 y4 y5 y6 y7 hA0 HI t0 t1
      go_wp2_with fail
      refine ⟨by simp, .inl ⟨_, _, rfl, run_takeDeferred hd5, ?_⟩⟩
      refine ⟨.tuple #[.agg #[.int .i64 0, .slice none 0 0, .int .i64 0], .int .i64 ((nodes D fs [] false).length : Int)], ?_, HG5.out, .inr (.inl ⟨rfl, HOK.out, rfl⟩)⟩
      simp [results, Tryz.f52, go_sem, v0, v1, v2, v3]
    case stop =>
      rintro c pre W hp ⟨rfl, L, x, vo, vc, hX⟩ hz hd
      rw [hz4] at hz hd ⊢
      have HG5 : Hid (Gr w (W.putObj (A + 3) (.deferred none))) := hX.gr.trans (T := fun k => k = (A + 3)) (keeps_put _ _ _) (fun j hj h => by omega)
      have t0 : (W.putObj (A + 3) (.deferred none)).heap[w.heap.size + 1]? = _ := (World.putObj_heap_other (by omega)).trans hX.r2
      have t1 : (W.putObj (A + 3) (.deferred none)).heap[w.heap.size + 2]? = _ := (World.putObj_heap_other (by omega)).trans hX.r3
      have HO : Hid ((W.putObj (A + 3) (.deferred none)).ownsRow 0 3 1 (.slice vo x.path.length vc) x.path.length (ints x.path)) := own_kp hX.own fun g e => World.putObj_heap_other (by have := hX.new g e; omega)
      obtain ⟨v0, v1, v2⟩ := cell3 t0
      have v3 := cell1 t1
      have HX := hidM hX
      have HP := hidM hp
      have hd5 := hd
      clear hX hp t0 t1 hd
      gi_wp2
      refine ⟨by simp, .inl ⟨_, _, rfl, run_takeDeferred hd5, ?_⟩⟩
      refine ⟨.tuple #[.agg #[.int .i64 (wrongE x L.length (tkL L)), .slice vo x.path.length vc, .int .i64 0], .int .i64 (L.length : Int)], ?_, HG5.out, .inr (.inr ⟨rfl, L, x, vo, vc, by rw [← HX.out.e]; exact HP.out.2, HX.out.ok, HX.out.bad, rfl, HO.out, fun g e => by have := HX.out.new g e; omega⟩)⟩
      simp [results, Tryz.f52, go_sem, v0, v1, v2, v3]
  have hE' : (E1 != 0) = true := by simpa using hE
  obtain ⟨y0, y1, y2⟩ := cell3 x2
  obtain ⟨y3, y4, y5⟩ := fz3 x2
  have y6 : W2.cell? ⟨w.heap.size + 2, 0, none⟩ = some (.int .i64 0) := by simp [World.cell?, x3]
  have y7 := frz x3 0
  clear x1 x2 x3 x4 hg1 hg2
  have HXX := HX
  go_wp2_with fail
  obtain ⟨e2, e3, k5⟩ := set31 (.int .i64 E1) (.slice none 0 0) (.int .i64 E2) (.int .i64 0) (show w.heap.size + 2 ≠ w.heap.size + 1 by omega) HXX.out.2.1 HXX.out.2.2
  generalize (((W2.setCell ⟨w.heap.size + 1, 0, none⟩ (.int .i64 E1)).setCell ⟨w.heap.size + 1, 1, none⟩ (.slice none 0 0)).setCell ⟨w.heap.size + 1, 2, none⟩ (.int .i64 E2)).setCell ⟨w.heap.size + 2, 0, none⟩ (.int .i64 0) = W5 at *
  have HG5 : Hid (Gr w W5) := HG2.out.trans k5 (fun j hj h => by omega)
  obtain ⟨v0, v1, v2⟩ := cell3 e2
  have v3 := cell1 e3
  refine ⟨.tuple #[.agg #[.int .i64 E1, .slice none 0 0, .int .i64 E2], .int .i64 0], ?_, HG5.out, .inl ⟨hE, rfl⟩⟩
  simp [results, Tryz.f52, go_sem, v0, v1, v2, v3]
end Go.Proofs.YtdihbfjjddmbiaaGreatDoor.Kit
namespace Go.Proofs.YtdihbfjjddmbiaaGreatDoor.Kit
open Go.RowKit Go.Shelf Go.Deep
set_option linter.unusedVariables false
attribute [local go_sem] run_store_func
theorem AllR.pre {N L : List LS} {x : LS} (h : AllR N) (hp : L ++ [x] <+: N) : wrongE x L.length (tkL L) = 0 := by
  obtain ⟨r, rfl⟩ := hp
  have := h L.length (by simp)
  simpa using this
theorem AllR.mono {N L : List LS} (h : AllR N) (hp : L <+: N) : AllR L := by
  obtain ⟨r, rfl⟩ := hp
  intro k hk
  have := h k (by simp; omega)
  rw [List.getElem_append_left hk, List.take_append_of_le_length (by omega)] at this
  exact this
theorem first_eq {N L L' : List LS} {x x' : LS} (h : L ++ [x] <+: N) (h' : L' ++ [x'] <+: N) (a : AllR L) (a' : AllR L') (b : wrongE x L.length (tkL L) ≠ 0) (b' : wrongE x' L'.length (tkL L') ≠ 0) : L = L' ∧ x = x' := by
  have key : ∀ {L L' : List LS} {x x' : LS}, L ++ [x] <+: N → L' ++ [x'] <+: N → AllR L' → wrongE x L.length (tkL L) ≠ 0 → ¬ L.length < L'.length := fun {L L' x x'} h h' a' b hlt => by
    have h1 : L ++ [x] <+: L' := List.prefix_of_prefix_length_le h ((List.prefix_append L' [x']).trans h') (by simp; omega)
    exact b (a'.pre h1)
  have hl : L.length = L'.length := by
    have h1 := key h h' a' b
    have h2 := key h' h a b'
    omega
  have := List.prefix_of_prefix_length_le h h' (by simp [hl])
  have e := this.eq_of_length (by simp [hl])
  have := List.append_inj e hl
  exact ⟨this.1, by simpa using this.2⟩
end Go.Proofs.YtdihbfjjddmbiaaGreatDoor.Kit
