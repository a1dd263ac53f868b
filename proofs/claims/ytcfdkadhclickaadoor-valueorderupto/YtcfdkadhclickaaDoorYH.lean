import Derived.Test.YtcfdkadhclickaaDoorYF
import Derived.Test.YtcfdkadhclickaaDoorYG
import Derived.Test.YtcfdkadhclickaaDoorWG
namespace Go.Proofs.YtcfdkadhclickaaDoor.Kit
open Go.RowKit Go.Shelf Go.Deep
set_option linter.unusedVariables false
attribute [local go_sem] run_store_func

/-! ### ValueOrder: what the calls answer, turn by turn -/
def HAns (F : Nat) (args : Array Value) (z : Int) (w : World) : Prop := ∀ W, Gr w W → Calls Tryd.prog F args W fun e w' => e = .returned (.int .u64 z) ∧ Gr W w'
/-- behind the second Turn -/
structure Ph3 (V : World) (f c d : Value) : Prop where
  cmp : ∃ r, CmpD V f c d r ∧ CmpC V f c d r
  same : ∃ z, Ans 20 #[c, d] z V ∧ Ans 14 #[c, d] z V
/-- behind the first -/
structure Ph2 (V : World) (f c d : Value) (lo hi : Nat) (dl : Value) : Prop where
  hash : ∃ z, HAns 21 #[c] z V ∧ HAns 22 #[c] z V
  cmp : ∃ r, CmpD V f c d r ∧ CmpC V f c d r
  turn : ∀ W, Gr V W → Calls Tryd.prog 23 #[dl] W fun e w' => e = .returned (.tuple #[]) ∧ Keeps W w' (fun z => lo ≤ z ∧ z < hi) ∧ Ph3 w' f c d
/-- behind both Twins -/
structure Ph1 (V : World) (f a b c d : Value) (r s : Int × Int) (lo hi lo' hi' : Nat) (cl dl : Value) : Prop where
  cd : CmpC V f c d r
  dc : CmpC V f d c s
  same : ∃ z, Ans 20 #[c, d] z V ∧ Ans 14 #[a, b] z V
  ca : Ans 20 #[c, a] true V
  hd : ∃ z, HAns 21 #[d] z V ∧ HAns 22 #[b] z V
  hc : ∃ z, HAns 21 #[c] z V ∧ HAns 22 #[a] z V
  sc : Ans 11 #[c, a] true V
  sd : Ans 11 #[d, b] true V
  turn : ∀ W, Gr V W → Calls Tryd.prog 23 #[cl] W fun e w' => e = .returned (.tuple #[]) ∧ Keeps W w' (fun z => lo ≤ z ∧ z < hi) ∧ Ph2 w' f c d lo' hi' dl
/-- the law's boxes -/
structure BxO (V : World) (X : Nat) (f0 : ByteArray) (f1 : Bool) (f2 f3 f4 f5 : Int) (ao : Option Addr) (n ca : Nat) (a0 b0 : Bool) (a1 b1 : Int) (a2 b2 : ByteArray) (uo vo : Option Addr) (un uc vn vc : Nat) : Prop where
  f : B7 V X f0 f1 f2 f3 f4 f5 ao n ca
  a : B4 V (X + 1) a0 a1 a2 uo un uc
  b : B4 V (X + 1 + 1) b0 b1 b2 vo vn vc
theorem BxO.kp {V V' : World} {X : Nat} {S : Nat → Prop} {f0 : ByteArray} {f1 : Bool} {f2 f3 f4 f5 : Int} {ao : Option Addr} {n ca : Nat} {a0 b0 : Bool} {a1 b1 : Int} {a2 b2 : ByteArray} {uo vo : Option Addr} {un uc vn vc : Nat} (h : BxO V X f0 f1 f2 f3 f4 f5 ao n ca a0 b0 a1 b1 a2 b2 uo vo un uc vn vc) (k : Keeps V V' S) (hS : ∀ z, z ≤ X + 1 + 1 → ¬ S z) : BxO V' X f0 f1 f2 f3 f4 f5 ao n ca a0 b0 a1 b1 a2 b2 uo vo un uc vn vc :=
  ⟨(k.block _ (lt_of_heap h.f) (hS _ (by omega))).trans h.f, (k.block _ (lt_of_heap h.a) (hS _ (by omega))).trans h.a, (k.block _ (lt_of_heap h.b) (hS _ (by omega))).trans h.b⟩
theorem B4.kp {V V' : World} {C : Nat} {S : Nat → Prop} {v0 : Bool} {v1 : Int} {v2 : ByteArray} {vo : Option Addr} {m vc : Nat} (h : B4 V C v0 v1 v2 vo m vc) (k : Keeps V V' S) (hS : ¬ S C) : B4 V' C v0 v1 v2 vo m vc := (k.block _ (lt_of_heap h) hS).trans h
theorem s16_gr {W W' : World} {X C D co dq : Nat} {a0 b0 : Bool} {a1 b1 : Int} {a2 b2 : ByteArray} {uo vo : Option Addr} {un uc vn vc : Nat} (g : Gr W W') (h : W.cell? ⟨C, 0, none⟩ = some (.bool a0) ∧ W.cell? ⟨C, 1, none⟩ = some (.int .i64 a1) ∧ W.cell? ⟨C, 2, none⟩ = some (.string a2) ∧ W.cell? ⟨C, 3, none⟩ = some (.slice (some ⟨co, 0, none⟩) un (un + 2)) ∧ W.cell? ⟨D, 0, none⟩ = some (.bool b0) ∧ W.cell? ⟨D, 1, none⟩ = some (.int .i64 b1) ∧ W.cell? ⟨D, 2, none⟩ = some (.string b2) ∧ W.cell? ⟨D, 3, none⟩ = some (.slice (some ⟨dq, 0, none⟩) vn (vn + 2)) ∧ W.cell? ⟨X + 1, 0, none⟩ = some (.bool a0) ∧ W.cell? ⟨X + 1, 1, none⟩ = some (.int .i64 a1) ∧ W.cell? ⟨X + 1, 2, none⟩ = some (.string a2) ∧ W.cell? ⟨X + 1, 3, none⟩ = some (.slice uo un uc) ∧ W.cell? ⟨X + 1 + 1, 0, none⟩ = some (.bool b0) ∧ W.cell? ⟨X + 1 + 1, 1, none⟩ = some (.int .i64 b1) ∧ W.cell? ⟨X + 1 + 1, 2, none⟩ = some (.string b2) ∧ W.cell? ⟨X + 1 + 1, 3, none⟩ = some (.slice vo vn vc)) : W'.cell? ⟨C, 0, none⟩ = some (.bool a0) ∧ W'.cell? ⟨C, 1, none⟩ = some (.int .i64 a1) ∧ W'.cell? ⟨C, 2, none⟩ = some (.string a2) ∧ W'.cell? ⟨C, 3, none⟩ = some (.slice (some ⟨co, 0, none⟩) un (un + 2)) ∧ W'.cell? ⟨D, 0, none⟩ = some (.bool b0) ∧ W'.cell? ⟨D, 1, none⟩ = some (.int .i64 b1) ∧ W'.cell? ⟨D, 2, none⟩ = some (.string b2) ∧ W'.cell? ⟨D, 3, none⟩ = some (.slice (some ⟨dq, 0, none⟩) vn (vn + 2)) ∧ W'.cell? ⟨X + 1, 0, none⟩ = some (.bool a0) ∧ W'.cell? ⟨X + 1, 1, none⟩ = some (.int .i64 a1) ∧ W'.cell? ⟨X + 1, 2, none⟩ = some (.string a2) ∧ W'.cell? ⟨X + 1, 3, none⟩ = some (.slice uo un uc) ∧ W'.cell? ⟨X + 1 + 1, 0, none⟩ = some (.bool b0) ∧ W'.cell? ⟨X + 1 + 1, 1, none⟩ = some (.int .i64 b1) ∧ W'.cell? ⟨X + 1 + 1, 2, none⟩ = some (.string b2) ∧ W'.cell? ⟨X + 1 + 1, 3, none⟩ = some (.slice vo vn vc) :=
  ⟨gr_c g (h.1), gr_c g (h.2.1), gr_c g (h.2.2.1), gr_c g (h.2.2.2.1), gr_c g (h.2.2.2.2.1), gr_c g (h.2.2.2.2.2.1), gr_c g (h.2.2.2.2.2.2.1), gr_c g (h.2.2.2.2.2.2.2.1), gr_c g (h.2.2.2.2.2.2.2.2.1), gr_c g (h.2.2.2.2.2.2.2.2.2.1), gr_c g (h.2.2.2.2.2.2.2.2.2.2.1), gr_c g (h.2.2.2.2.2.2.2.2.2.2.2.1), gr_c g (h.2.2.2.2.2.2.2.2.2.2.2.2.1), gr_c g (h.2.2.2.2.2.2.2.2.2.2.2.2.2.1), gr_c g (h.2.2.2.2.2.2.2.2.2.2.2.2.2.2.1), gr_c g (h.2.2.2.2.2.2.2.2.2.2.2.2.2.2.2)⟩
set_option maxRecDepth 100000 in
set_option maxHeartbeats 8000000 in
theorem order_walk (f0 : ByteArray) (f1 : Bool) (f2 f3 f4 f5 : Int) (ao : Option Addr) (n ca : Nat) (a0 b0 : Bool) (a1 b1 : Int) (a2 b2 : ByteArray) (uo vo : Option Addr) (un uc vn vc : Nat) (w : World) (la lb : List VT) (hla : la.length = un) (hlb : lb.length = vn) (DD : Nat) (r1 r2 s1 s2 : Int) (ha hb : Bool)
    (hK : CmpC w (.agg #[.string ⟨#[97]⟩, .bool false, .int .i64 2, .int .i64 0, .int .i64 0, .int .i64 0, .slice none 0 0]) (.agg #[.bool false, .int .i64 0, .string ⟨#[]⟩, .slice none 0 0]) (.agg #[.bool false, .int .i64 1, .string ⟨#[]⟩, .slice none 0 0]) (-1, 0))
    (hab : CmpD w (.agg #[.string f0, .bool f1, .int .i64 f2, .int .i64 f3, .int .i64 f4, .int .i64 f5, .slice ao n ca]) (.agg #[.bool a0, .int .i64 a1, .string a2, .slice uo un uc]) (.agg #[.bool b0, .int .i64 b1, .string b2, .slice vo vn vc]) (r1, r2)) (hba : CmpD w (.agg #[.string f0, .bool f1, .int .i64 f2, .int .i64 f3, .int .i64 f4, .int .i64 f5, .slice ao n ca]) (.agg #[.bool b0, .int .i64 b1, .string b2, .slice vo vn vc]) (.agg #[.bool a0, .int .i64 a1, .string a2, .slice uo un uc]) (s1, s2))
    (h8a : Ans 8 #[.agg #[.bool a0, .int .i64 a1, .string a2, .slice uo un uc]] ha w) (h8b : Ans 8 #[.agg #[.bool b0, .int .i64 b1, .string b2, .slice vo vn vc]] hb w) (h18 : CmpC w (.agg #[.string f0, .bool f1, .int .i64 f2, .int .i64 f3, .int .i64 f4, .int .i64 f5, .slice ao n ca]) (.agg #[.bool a0, .int .i64 a1, .string a2, .slice uo un uc]) (.agg #[.bool b0, .int .i64 b1, .string b2, .slice vo vn vc]) (r1, r2))
    (hta : ∀ W, Gr w W → Calls Tryd.prog 10 #[.agg #[.bool a0, .int .i64 a1, .string a2, .slice uo un uc]] W fun e w' => ∃ co, e = .returned (.agg #[.bool a0, .int .i64 a1, .string a2, .slice (some ⟨co, 0, none⟩) un (un + 2)]) ∧ Gr W w' ∧ TRow w' DD W.heap.size w'.heap.size (some ⟨co, 0, none⟩) la)
    (htb : ∀ W, Gr w W → Calls Tryd.prog 10 #[.agg #[.bool b0, .int .i64 b1, .string b2, .slice vo vn vc]] W fun e w' => ∃ dq, e = .returned (.agg #[.bool b0, .int .i64 b1, .string b2, .slice (some ⟨dq, 0, none⟩) vn (vn + 2)]) ∧ Gr W w' ∧ TRow w' DD W.heap.size w'.heap.size (some ⟨dq, 0, none⟩) lb)
    (hph : ∀ V co dq lo hi lo' hi', Gr w V → w.heap.size ≤ lo → hi ≤ lo' → hi' ≤ V.heap.size → TRow V DD lo hi (some ⟨co, 0, none⟩) la → TRow V DD lo' hi' (some ⟨dq, 0, none⟩) lb → Ph1 V (.agg #[.string f0, .bool f1, .int .i64 f2, .int .i64 f3, .int .i64 f4, .int .i64 f5, .slice ao n ca]) (.agg #[.bool a0, .int .i64 a1, .string a2, .slice uo un uc]) (.agg #[.bool b0, .int .i64 b1, .string b2, .slice vo vn vc]) (.agg #[.bool a0, .int .i64 a1, .string a2, .slice (some ⟨co, 0, none⟩) un (un + 2)]) (.agg #[.bool b0, .int .i64 b1, .string b2, .slice (some ⟨dq, 0, none⟩) vn (vn + 2)]) (r1, r2) (s1, s2) lo hi lo' hi' (.slice (some ⟨co, 0, none⟩) un (un + 2)) (.slice (some ⟨dq, 0, none⟩) vn (vn + 2))) :
    Calls Tryd.prog 4 #[.agg #[.string f0, .bool f1, .int .i64 f2, .int .i64 f3, .int .i64 f4, .int .i64 f5, .slice ao n ca], .agg #[.bool a0, .int .i64 a1, .string a2, .slice uo un uc], .agg #[.bool b0, .int .i64 b1, .string b2, .slice vo vn vc]] w fun e w' => e = .returned (.bool true) ∧ Gr w w' := by
  have HK := hidM hK
  have HAB := hidM hab
  have HBA := hidM hba
  have H8a := hidM h8a
  have H8b := hidM h8b
  have H18 := hidM h18
  have Hta := hidM hta
  have Htb := hidM htb
  have Hph := hidM hph
  have Hla := hidM hla
  have Hlb := hidM hlb
  obtain ⟨V, hV⟩ : ∃ V, ((w.alloc (.cells #[.string f0, .bool f1, .int .i64 f2, .int .i64 f3, .int .i64 f4, .int .i64 f5, .slice ao n ca] 26)).alloc (.cells #[.bool a0, .int .i64 a1, .string a2, .slice uo un uc] 29)).alloc (.cells #[.bool b0, .int .i64 b1, .string b2, .slice vo vn vc] 29) = V := ⟨_, rfl⟩
  have hA := alloc3 w (.cells #[.string f0, .bool f1, .int .i64 f2, .int .i64 f3, .int .i64 f4, .int .i64 f5, .slice ao n ca] 26) (.cells #[.bool a0, .int .i64 a1, .string a2, .slice uo un uc] 29) (.cells #[.bool b0, .int .i64 b1, .string b2, .slice vo vn vc] 29)
  have HB : Hid (BxO V w.heap.size f0 f1 f2 f3 f4 f5 ao n ca a0 b0 a1 b1 a2 b2 uo vo un uc vn vc) := by rw [← hV]; exact ⟨hA.1, hA.2.1, hA.2.2.1⟩
  have HG : Hid (Gr w V) := by rw [← hV]; exact (((Keeps.refl w _).alloc _).alloc _).alloc _
  have HSz : Hid (w.heap.size + 3 ≤ V.heap.size) := by show _ ≤ _; rw [← hV]; simp
  have HV := hidM hV
  obtain ⟨X, hX⟩ : ∃ X, X = w.heap.size := ⟨_, rfl⟩
  clear hK hab hba h8a h8b h18 hta htb hph hla hlb hV hA
  go_enter Tryd.func4, Tryd.ntmps4
  go_wp2_with (go_at_call 18; refine Hid.out ?_)
  unfold Hid
  rw [HV.out]
  refine Calls.mono (HK.out _ HG.out) ?_
  rintro e' V1 ⟨rfl, hg⟩
  replace HB := hidM (HB.out.kp hg (fun _ _ h => h))
  replace HG := hidM (HG.out.trans hg (fun _ _ h => h))
  clear hg HV 
  rw [← hX] at HB HSz ⊢
  have HX := hidM hX
  clear hX
  obtain ⟨p0, p1, p2, p3, p4, p5, p6⟩ := HB.out.f.cells
  obtain ⟨q0, q1, q2, q3⟩ := HB.out.a.cells
  obtain ⟨r0, r1, r2, r3⟩ := HB.out.b.cells
  go_wp2_with (go_at_call 19; refine Hid.out ?_)
  unfold Hid
  refine Calls.mono (HAB.out _ HG.out) ?_
  rintro e' V2 ⟨rfl, hg⟩
  replace HB := hidM (HB.out.kp hg (fun _ _ h => h))
  replace HG := hidM (HG.out.trans hg (fun _ _ h => h))
  clear hg p0 p1 p2 p3 p4 p5 p6 q0 q1 q2 q3 r0 r1 r2 r3
  obtain ⟨p0, p1, p2, p3, p4, p5, p6⟩ := HB.out.f.cells
  obtain ⟨q0, q1, q2, q3⟩ := HB.out.a.cells
  obtain ⟨r0, r1, r2, r3⟩ := HB.out.b.cells
  go_wp2_with (go_at_call 19; refine Hid.out ?_)
  unfold Hid
  refine Calls.mono (HBA.out _ HG.out) ?_
  rintro e' V3 ⟨rfl, hg⟩
  replace HB := hidM (HB.out.kp hg (fun _ _ h => h))
  replace HG := hidM (HG.out.trans hg (fun _ _ h => h))
  clear hg p0 p1 p2 p3 p4 p5 p6 q0 q1 q2 q3 r0 r1 r2 r3
  obtain ⟨q0, q1, q2, q3⟩ := HB.out.a.cells
  go_wp2_with (go_at_call 8; refine Hid.out ?_)
  unfold Hid
  refine Calls.mono (H8a.out _ HG.out) ?_
  rintro e' V4 ⟨rfl, hg⟩
  replace HB := hidM (HB.out.kp hg (fun _ _ h => h))
  replace HG := hidM (HG.out.trans hg (fun _ _ h => h))
  clear hg q0 q1 q2 q3
  obtain ⟨r0, r1, r2, r3⟩ := HB.out.b.cells
  go_wp2_with (go_at_call 8; refine Hid.out ?_)
  unfold Hid
  refine Calls.mono (H8b.out _ HG.out) ?_
  rintro e' V5 ⟨rfl, hg⟩
  replace HB := hidM (HB.out.kp hg (fun _ _ h => h))
  replace HG := hidM (HG.out.trans hg (fun _ _ h => h))
  clear hg r0 r1 r2 r3
  cases ha with
  | true =>
    obtain ⟨p0, p1, p2, p3, p4, p5, p6⟩ := HB.out.f.cells
    obtain ⟨q0, q1, q2, q3⟩ := HB.out.a.cells
    obtain ⟨r0, r1, r2, r3⟩ := HB.out.b.cells
    go_wp2_with (go_at_call 18; refine Hid.out ?_)
    unfold Hid
    refine Calls.mono (H18.out _ HG.out) ?_
    rintro e' V6 ⟨rfl, hg⟩
    replace HB := hidM (HB.out.kp hg (fun _ _ h => h))
    replace HG := hidM (HG.out.trans hg (fun _ _ h => h))
    clear hg p0 p1 p2 p3 p4 p5 p6 q0 q1 q2 q3 r0 r1 r2 r3
    go_wp2_with fail
    all_goals go_ret
    all_goals exact ⟨by first | rfl | simp, HG.out⟩
  | false =>
    cases hb with
    | true =>
      obtain ⟨p0, p1, p2, p3, p4, p5, p6⟩ := HB.out.f.cells
      obtain ⟨q0, q1, q2, q3⟩ := HB.out.a.cells
      obtain ⟨r0, r1, r2, r3⟩ := HB.out.b.cells
      go_wp2_with (go_at_call 18; refine Hid.out ?_)
      unfold Hid
      refine Calls.mono (H18.out _ HG.out) ?_
      rintro e' V7 ⟨rfl, hg⟩
      replace HB := hidM (HB.out.kp hg (fun _ _ h => h))
      replace HG := hidM (HG.out.trans hg (fun _ _ h => h))
      clear hg p0 p1 p2 p3 p4 p5 p6 q0 q1 q2 q3 r0 r1 r2 r3
      go_wp2_with fail
      all_goals go_ret
      all_goals exact ⟨by first | rfl | simp, HG.out⟩
    | false =>
      obtain ⟨q0, q1, q2, q3⟩ := HB.out.a.cells
      go_wp2_with (go_at_call 10; refine Hid.out ?_)
      unfold Hid
      obtain ⟨Wa, hWa⟩ : ∃ Wa, Wa = V5 := ⟨_, rfl⟩
      rw [← hWa] at HB HG ⊢
      clear hWa
      refine Calls.mono (Hta.out _ HG.out) ?_
      rintro e' V6 ⟨co, rfl, hg, hT⟩
      have hsa : X + 1 + 1 < Wa.heap.size := lt_of_heap HB.out.b
      have hsa' := HG.out.size
      replace HB := hidM (HB.out.kp hg (fun _ _ h => h))
      replace HG := hidM (HG.out.trans hg (fun _ _ h => h))
      obtain ⟨V7, hV7⟩ : ∃ V7, V6.alloc (.cells #[.bool a0, .int .i64 a1, .string a2, .slice (some ⟨co, 0, none⟩) un (un + 2)] 29) = V7 := ⟨_, rfl⟩
      have g7 : Gr V6 V7 := by rw [← hV7]; exact gr_alloc V6 _
      have hbc : B4 V7 V6.heap.size a0 a1 a2 (some ⟨co, 0, none⟩) un (un + 2) := by unfold B4; rw [← hV7]; exact heap_alloc_new V6 _
      have hs7 : V7.heap.size = V6.heap.size + 1 := by rw [← hV7]; simp
      obtain ⟨C, hC⟩ : ∃ C, C = V6.heap.size := ⟨_, rfl⟩
      rw [← hC] at hbc
      have HTA : Hid (TRow V7 DD Wa.heap.size C (some ⟨co, 0, none⟩) la) := by show TRow _ _ _ _ _ _; rw [hC]; exact hT.kept fun c _ h2 => g7.block c h2 id
      have HBC := hidM hbc
      have HN1 : Hid (X + 1 + 1 < Wa.heap.size ∧ w.heap.size ≤ Wa.heap.size ∧ V7.heap.size = C + 1) := ⟨hsa, hsa', by rw [hs7, hC]⟩
      replace HB := hidM (HB.out.kp g7 (fun _ _ h => h))
      replace HG := hidM (HG.out.trans g7 (fun _ _ h => h))
      obtain ⟨r0, r1c, r2c, r3⟩ := HB.out.b.cells
      clear hg hT g7 hbc hs7 hsa hsa' q0 q1 q2 q3
      go_wp2_with (go_at_call 10; refine Hid.out ?_)
      unfold Hid
      clear hV7
      rw [← hC]
      clear hC
      refine Calls.mono (Htb.out _ HG.out) ?_
      rintro e' V8 ⟨dq, rfl, hg, hT⟩
      obtain ⟨V9, hV9⟩ : ∃ V9, V8.alloc (.cells #[.bool b0, .int .i64 b1, .string b2, .slice (some ⟨dq, 0, none⟩) vn (vn + 2)] 29) = V9 := ⟨_, rfl⟩
      have g9 : Gr V8 V9 := by rw [← hV9]; exact gr_alloc V8 _
      have hbd : B4 V9 V8.heap.size b0 b1 b2 (some ⟨dq, 0, none⟩) vn (vn + 2) := by unfold B4; rw [← hV9]; exact heap_alloc_new V8 _
      have hs9 : V9.heap.size = V8.heap.size + 1 := by rw [← hV9]; simp
      obtain ⟨D, hD⟩ : ∃ D, D = V8.heap.size := ⟨_, rfl⟩
      obtain ⟨t0, t1, t2, t3⟩ := B4.cells hbd
      rw [← hD] at hbd
      have g79 := hg.trans g9 (fun _ _ h => h)
      have HTB : Hid (TRow V9 DD V7.heap.size D (some ⟨dq, 0, none⟩) lb) := by show TRow _ _ _ _ _ _; rw [hD]; exact hT.kept fun c _ h2 => g9.block c h2 id
      replace HTA : Hid (TRow V9 DD Wa.heap.size C (some ⟨co, 0, none⟩) la) := HTA.out.kept fun c _ h2 => g79.block c (by have := HN1.out.2.2; omega) id
      replace HBC := hidM (HBC.out.kp g79 id)
      have HBD := hidM hbd
      replace HB := hidM (HB.out.kp g79 (fun _ _ h => h))
      replace HG := hidM (HG.out.trans g79 (fun _ _ h => h))
      have hs78 := hg.size
      obtain ⟨LO, hLO⟩ : ∃ LO, LO = Wa.heap.size := ⟨_, rfl⟩
      have HPh := hidM (Hph.out V9 co dq LO C (C + 1) D HG.out (by have := HN1.out; omega) (by omega) (by omega) (by rw [hLO]; exact HTA.out) (HTB.out.wide (by have := HN1.out; omega) (Nat.le_refl _)))
      have HN : Hid (X + 1 + 1 < LO ∧ LO < C ∧ C + 1 ≤ D) := by have := HN1.out; have := HTA.out.lt; exact ⟨by omega, by omega, by omega⟩
      clear hg hT g9 g79 hbd hs9 hs78 HTA HTB HN1 hLO r0 r1c r2c r3
      obtain ⟨p0, p1, p2, p3, p4, p5, p6⟩ := HB.out.f.cells
      obtain ⟨s0, s1, s2, s3⟩ := HBC.out.cells
      have H1 := hidM HPh.out.cd
      have H2 := hidM HPh.out.dc
      have HQ : Hid (Gr V9 V9) := Keeps.refl _ _
      go_wp2_with (go_at_call 18; refine Hid.out ?_)
      unfold Hid
      clear hV9
      rw [← hD]
      clear hD
      refine Calls.mono (H1.out _ HQ.out) ?_
      rintro e' V10 ⟨rfl, hg⟩
      replace HB := hidM (HB.out.kp hg (fun _ _ h => h))
      replace HBC := hidM (HBC.out.kp hg id)
      replace HBD := hidM (HBD.out.kp hg id)
      replace HQ := hidM (HQ.out.trans hg (fun _ _ h => h))
      clear hg p0 p1 p2 p3 p4 p5 p6 s0 s1 s2 s3 t0 t1 t2 t3
      obtain ⟨p0, p1, p2, p3, p4, p5, p6⟩ := HB.out.f.cells
      obtain ⟨s0, s1, s2, s3⟩ := HBC.out.cells
      obtain ⟨t0, t1, t2, t3⟩ := HBD.out.cells
      go_wp2_with (go_at_call 18; refine Hid.out ?_)
      unfold Hid
      refine Calls.mono (H2.out _ HQ.out) ?_
      rintro e' V11 ⟨rfl, hg⟩
      replace HB := hidM (HB.out.kp hg (fun _ _ h => h))
      replace HBC := hidM (HBC.out.kp hg id)
      replace HBD := hidM (HBD.out.kp hg id)
      replace HQ := hidM (HQ.out.trans hg (fun _ _ h => h))
      clear hg p0 p1 p2 p3 p4 p5 p6 s0 s1 s2 s3 t0 t1 t2 t3
      obtain ⟨z, h20, h14⟩ := HPh.out.same
      have H20 := hidM h20
      have H14 := hidM h14
      have H20a := hidM HPh.out.ca
      clear h20 h14
      obtain ⟨s0, s1, s2, s3⟩ := HBC.out.cells
      obtain ⟨t0, t1, t2, t3⟩ := HBD.out.cells
      obtain ⟨q0, q1, q2, q3⟩ := HB.out.a.cells
      obtain ⟨r0, r1, r2, r3⟩ := HB.out.b.cells
      have HC : Hid (V11.drew.cell? ⟨C, 0, none⟩ = some (.bool a0) ∧ V11.drew.cell? ⟨C, 1, none⟩ = some (.int .i64 a1) ∧ V11.drew.cell? ⟨C, 2, none⟩ = some (.string a2) ∧ V11.drew.cell? ⟨C, 3, none⟩ = some (.slice (some ⟨co, 0, none⟩) un (un + 2)) ∧ V11.drew.cell? ⟨D, 0, none⟩ = some (.bool b0) ∧ V11.drew.cell? ⟨D, 1, none⟩ = some (.int .i64 b1) ∧ V11.drew.cell? ⟨D, 2, none⟩ = some (.string b2) ∧ V11.drew.cell? ⟨D, 3, none⟩ = some (.slice (some ⟨dq, 0, none⟩) vn (vn + 2)) ∧ V11.drew.cell? ⟨X + 1, 0, none⟩ = some (.bool a0) ∧ V11.drew.cell? ⟨X + 1, 1, none⟩ = some (.int .i64 a1) ∧ V11.drew.cell? ⟨X + 1, 2, none⟩ = some (.string a2) ∧ V11.drew.cell? ⟨X + 1, 3, none⟩ = some (.slice uo un uc) ∧ V11.drew.cell? ⟨X + 1 + 1, 0, none⟩ = some (.bool b0) ∧ V11.drew.cell? ⟨X + 1 + 1, 1, none⟩ = some (.int .i64 b1) ∧ V11.drew.cell? ⟨X + 1 + 1, 2, none⟩ = some (.string b2) ∧ V11.drew.cell? ⟨X + 1 + 1, 3, none⟩ = some (.slice vo vn vc)) := ⟨s0, s1, s2, s3, t0, t1, t2, t3, q0, q1, q2, q3, r0, r1, r2, r3⟩
      have HGd := hidM (HQ.out.drew)
      go_wp2
      clear s0 s1 s2 s3 t0 t1 t2 t3 q0 q1 q2 q3 r0 r1 r2 r3
      go_region_held3 (fun w' => w'.cell? ⟨C, 0, none⟩ = some (.bool a0) ∧ w'.cell? ⟨C, 1, none⟩ = some (.int .i64 a1) ∧ w'.cell? ⟨C, 2, none⟩ = some (.string a2) ∧ w'.cell? ⟨C, 3, none⟩ = some (.slice (some ⟨co, 0, none⟩) un (un + 2)) ∧ w'.cell? ⟨D, 0, none⟩ = some (.bool b0) ∧ w'.cell? ⟨D, 1, none⟩ = some (.int .i64 b1) ∧ w'.cell? ⟨D, 2, none⟩ = some (.string b2) ∧ w'.cell? ⟨D, 3, none⟩ = some (.slice (some ⟨dq, 0, none⟩) vn (vn + 2)) ∧ w'.cell? ⟨X + 1, 0, none⟩ = some (.bool a0) ∧ w'.cell? ⟨X + 1, 1, none⟩ = some (.int .i64 a1) ∧ w'.cell? ⟨X + 1, 2, none⟩ = some (.string a2) ∧ w'.cell? ⟨X + 1, 3, none⟩ = some (.slice uo un uc) ∧ w'.cell? ⟨X + 1 + 1, 0, none⟩ = some (.bool b0) ∧ w'.cell? ⟨X + 1 + 1, 1, none⟩ = some (.int .i64 b1) ∧ w'.cell? ⟨X + 1 + 1, 2, none⟩ = some (.string b2) ∧ w'.cell? ⟨X + 1 + 1, 3, none⟩ = some (.slice vo vn vc)) (first | with_reducible exact HC.out | with_reducible exact s16_gr HE1.out HC.out | with_reducible exact s16_gr HE2.out HC.out | with_reducible exact s16_gr HE3.out HC.out) (first | (go_at_call 20; (with_reducible show Calls _ _ #[.agg #[.bool a0, .int .i64 a1, .string a2, .slice (some ⟨co, 0, none⟩) un (un + 2)], .agg #[.bool b0, .int .i64 b1, .string b2, .slice (some ⟨dq, 0, none⟩) vn (vn + 2)]] _ _); refine Calls.mono (H20.out _ HGd.out) ?_; rintro e u11 ⟨rfl, hg2⟩; have HE1 := hidM hg2; clear hg2) | (go_at_call 14; (with_reducible show Calls _ _ #[.agg #[.bool a0, .int .i64 a1, .string a2, .slice uo un uc], .agg #[.bool b0, .int .i64 b1, .string b2, .slice vo vn vc]] _ _); refine Calls.mono (H14.out _ (HGd.out.trans HE1.out (fun _ _ h => h))) ?_; rintro e u12 ⟨rfl, hg2⟩; have HE2 := hidM (HE1.out.trans hg2 (fun _ _ h => h)); clear hg2) | (go_at_call 20; (with_reducible show Calls _ _ #[.agg #[.bool a0, .int .i64 a1, .string a2, .slice (some ⟨co, 0, none⟩) un (un + 2)], .agg #[.bool a0, .int .i64 a1, .string a2, .slice uo un uc]] _ _); refine Calls.mono (H20a.out _ (HGd.out.trans HE2.out (fun _ _ h => h))) ?_; rintro e u13 ⟨rfl, hg2⟩; have HE3 := hidM (HE2.out.trans hg2 (fun _ _ h => h)); clear hg2))
      have hk := (Keeps.refl V11 (fun _ => False)).drew.trans HE3.out (fun _ _ h => h)
      replace HB := hidM (HB.out.kp hk (fun _ _ h => h))
      replace HBC := hidM (HBC.out.kp hk id)
      replace HBD := hidM (HBD.out.kp hk id)
      replace HQ := hidM (HGd.out.trans HE3.out (fun _ _ h => h))
      clear hk HC HGd HE1 HE2 HE3
      clear H20 H14 H20a H1 H2
      obtain ⟨zd, hd1, hd2⟩ := HPh.out.hd
      have Hd1 := hidM hd1
      have Hd2 := hidM hd2
      obtain ⟨zc, hc1, hc2⟩ := HPh.out.hc
      have Hc1 := hidM hc1
      have Hc2 := hidM hc2
      clear hd1 hd2 hc1 hc2
      obtain ⟨s0, s1, s2, s3⟩ := HBC.out.cells
      obtain ⟨t0, t1, t2, t3⟩ := HBD.out.cells
      obtain ⟨q0, q1, q2, q3⟩ := HB.out.a.cells
      obtain ⟨r0, r1, r2, r3⟩ := HB.out.b.cells
      have HC : Hid (u13.drew.cell? ⟨C, 0, none⟩ = some (.bool a0) ∧ u13.drew.cell? ⟨C, 1, none⟩ = some (.int .i64 a1) ∧ u13.drew.cell? ⟨C, 2, none⟩ = some (.string a2) ∧ u13.drew.cell? ⟨C, 3, none⟩ = some (.slice (some ⟨co, 0, none⟩) un (un + 2)) ∧ u13.drew.cell? ⟨D, 0, none⟩ = some (.bool b0) ∧ u13.drew.cell? ⟨D, 1, none⟩ = some (.int .i64 b1) ∧ u13.drew.cell? ⟨D, 2, none⟩ = some (.string b2) ∧ u13.drew.cell? ⟨D, 3, none⟩ = some (.slice (some ⟨dq, 0, none⟩) vn (vn + 2)) ∧ u13.drew.cell? ⟨X + 1, 0, none⟩ = some (.bool a0) ∧ u13.drew.cell? ⟨X + 1, 1, none⟩ = some (.int .i64 a1) ∧ u13.drew.cell? ⟨X + 1, 2, none⟩ = some (.string a2) ∧ u13.drew.cell? ⟨X + 1, 3, none⟩ = some (.slice uo un uc) ∧ u13.drew.cell? ⟨X + 1 + 1, 0, none⟩ = some (.bool b0) ∧ u13.drew.cell? ⟨X + 1 + 1, 1, none⟩ = some (.int .i64 b1) ∧ u13.drew.cell? ⟨X + 1 + 1, 2, none⟩ = some (.string b2) ∧ u13.drew.cell? ⟨X + 1 + 1, 3, none⟩ = some (.slice vo vn vc)) := ⟨s0, s1, s2, s3, t0, t1, t2, t3, q0, q1, q2, q3, r0, r1, r2, r3⟩
      have HGd := hidM (HQ.out.drew)
      go_wp2
      clear s0 s1 s2 s3 t0 t1 t2 t3 q0 q1 q2 q3 r0 r1 r2 r3
      go_region_held3 (fun w' => w'.cell? ⟨C, 0, none⟩ = some (.bool a0) ∧ w'.cell? ⟨C, 1, none⟩ = some (.int .i64 a1) ∧ w'.cell? ⟨C, 2, none⟩ = some (.string a2) ∧ w'.cell? ⟨C, 3, none⟩ = some (.slice (some ⟨co, 0, none⟩) un (un + 2)) ∧ w'.cell? ⟨D, 0, none⟩ = some (.bool b0) ∧ w'.cell? ⟨D, 1, none⟩ = some (.int .i64 b1) ∧ w'.cell? ⟨D, 2, none⟩ = some (.string b2) ∧ w'.cell? ⟨D, 3, none⟩ = some (.slice (some ⟨dq, 0, none⟩) vn (vn + 2)) ∧ w'.cell? ⟨X + 1, 0, none⟩ = some (.bool a0) ∧ w'.cell? ⟨X + 1, 1, none⟩ = some (.int .i64 a1) ∧ w'.cell? ⟨X + 1, 2, none⟩ = some (.string a2) ∧ w'.cell? ⟨X + 1, 3, none⟩ = some (.slice uo un uc) ∧ w'.cell? ⟨X + 1 + 1, 0, none⟩ = some (.bool b0) ∧ w'.cell? ⟨X + 1 + 1, 1, none⟩ = some (.int .i64 b1) ∧ w'.cell? ⟨X + 1 + 1, 2, none⟩ = some (.string b2) ∧ w'.cell? ⟨X + 1 + 1, 3, none⟩ = some (.slice vo vn vc)) (first | with_reducible exact HC.out | with_reducible exact s16_gr HE1.out HC.out | with_reducible exact s16_gr HE2.out HC.out | with_reducible exact s16_gr HE3.out HC.out | with_reducible exact s16_gr HE4.out HC.out) (first | (go_at_call 21; (with_reducible show Calls _ _ #[.agg #[.bool b0, .int .i64 b1, .string b2, .slice (some ⟨dq, 0, none⟩) vn (vn + 2)]] _ _); refine Calls.mono (Hd1.out _ HGd.out) ?_; rintro e u21 ⟨rfl, hg2⟩; have HE1 := hidM hg2; clear hg2) | (go_at_call 22; (with_reducible show Calls _ _ #[.agg #[.bool b0, .int .i64 b1, .string b2, .slice vo vn vc]] _ _); refine Calls.mono (Hd2.out _ (HGd.out.trans HE1.out (fun _ _ h => h))) ?_; rintro e u22 ⟨rfl, hg2⟩; have HE2 := hidM (HE1.out.trans hg2 (fun _ _ h => h)); clear hg2) | (go_at_call 21; (with_reducible show Calls _ _ #[.agg #[.bool a0, .int .i64 a1, .string a2, .slice (some ⟨co, 0, none⟩) un (un + 2)]] _ _); refine Calls.mono (Hc1.out _ (HGd.out.trans HE2.out (fun _ _ h => h))) ?_; rintro e u23 ⟨rfl, hg2⟩; have HE3 := hidM (HE2.out.trans hg2 (fun _ _ h => h)); clear hg2) | (go_at_call 22; (with_reducible show Calls _ _ #[.agg #[.bool a0, .int .i64 a1, .string a2, .slice uo un uc]] _ _); refine Calls.mono (Hc2.out _ (HGd.out.trans HE3.out (fun _ _ h => h))) ?_; rintro e u24 ⟨rfl, hg2⟩; have HE4 := hidM (HE3.out.trans hg2 (fun _ _ h => h)); clear hg2))
      have hk := (Keeps.refl u13 (fun _ => False)).drew.trans HE4.out (fun _ _ h => h)
      replace HB := hidM (HB.out.kp hk (fun _ _ h => h))
      replace HBC := hidM (HBC.out.kp hk id)
      replace HBD := hidM (HBD.out.kp hk id)
      replace HQ := hidM (HGd.out.trans HE4.out (fun _ _ h => h))
      clear hk HC HGd HE1 HE2 HE3 HE4
      clear Hd1 Hd2 Hc1 Hc2
      have Hsc := hidM HPh.out.sc
      have Hsd := hidM HPh.out.sd
      have Htc := hidM HPh.out.turn
      obtain ⟨s0, s1, s2, s3⟩ := HBC.out.cells
      obtain ⟨q0, q1, q2, q3⟩ := HB.out.a.cells
      go_wp2_with (go_at_call 11; refine Hid.out ?_)
      unfold Hid
      refine Calls.mono (Hsc.out _ HQ.out) ?_
      rintro e' Y1 ⟨rfl, hg⟩
      replace HB := hidM (HB.out.kp hg (fun _ _ h => h))
      replace HBC := hidM (HBC.out.kp hg id)
      replace HBD := hidM (HBD.out.kp hg id)
      replace HQ := hidM (HQ.out.trans hg (fun _ _ h => h))
      clear hg s0 s1 s2 s3 q0 q1 q2 q3
      obtain ⟨t0, t1, t2, t3⟩ := HBD.out.cells
      obtain ⟨r0, r1, r2, r3⟩ := HB.out.b.cells
      go_wp2_with (go_at_call 11; refine Hid.out ?_)
      unfold Hid
      refine Calls.mono (Hsd.out _ HQ.out) ?_
      rintro e' Y2 ⟨rfl, hg⟩
      replace HB := hidM (HB.out.kp hg (fun _ _ h => h))
      replace HBC := hidM (HBC.out.kp hg id)
      replace HBD := hidM (HBD.out.kp hg id)
      replace HQ := hidM (HQ.out.trans hg (fun _ _ h => h))
      clear hg t0 t1 t2 t3 r0 r1 r2 r3
      obtain ⟨s0, s1, s2, s3⟩ := HBC.out.cells
      go_wp2_with (go_at_call 23; refine Hid.out ?_)
      unfold Hid
      refine Calls.mono (Htc.out _ HQ.out) ?_
      rintro e' Y3 ⟨rfl, hk, hp⟩
      replace HB := hidM (HB.out.kp hk (fun z hz h => by have := HN.out; omega))
      replace HBC := hidM (HBC.out.kp hk (fun h => by have := HN.out; omega))
      replace HBD := hidM (HBD.out.kp hk (fun h => by have := HN.out; omega))
      replace HG := hidM ((HG.out.trans HQ.out (fun _ _ h => h)).trans hk (fun j hj h => by have := HN.out; have := HX.out; omega))
      have HP2 := hidM hp
      clear hk hp s0 s1 s2 s3 HQ Htc Hsc Hsd HPh
      have HQ : Hid (Gr Y3 Y3) := Keeps.refl _ _
      obtain ⟨zh, hh1, hh2⟩ := HP2.out.hash
      have Hh1 := hidM hh1
      have Hh2 := hidM hh2
      obtain ⟨⟨x1, x2⟩, hc1, hc2⟩ := HP2.out.cmp
      have Hc1 := hidM hc1
      have Hc2 := hidM hc2
      have Htd := hidM HP2.out.turn
      clear hh1 hh2 hc1 hc2
      obtain ⟨s0, s1, s2, s3⟩ := HBC.out.cells
      obtain ⟨t0, t1, t2, t3⟩ := HBD.out.cells
      obtain ⟨q0, q1, q2, q3⟩ := HB.out.a.cells
      obtain ⟨r0, r1, r2, r3⟩ := HB.out.b.cells
      have HC : Hid (Y3.drew.cell? ⟨C, 0, none⟩ = some (.bool a0) ∧ Y3.drew.cell? ⟨C, 1, none⟩ = some (.int .i64 a1) ∧ Y3.drew.cell? ⟨C, 2, none⟩ = some (.string a2) ∧ Y3.drew.cell? ⟨C, 3, none⟩ = some (.slice (some ⟨co, 0, none⟩) un (un + 2)) ∧ Y3.drew.cell? ⟨D, 0, none⟩ = some (.bool b0) ∧ Y3.drew.cell? ⟨D, 1, none⟩ = some (.int .i64 b1) ∧ Y3.drew.cell? ⟨D, 2, none⟩ = some (.string b2) ∧ Y3.drew.cell? ⟨D, 3, none⟩ = some (.slice (some ⟨dq, 0, none⟩) vn (vn + 2)) ∧ Y3.drew.cell? ⟨X + 1, 0, none⟩ = some (.bool a0) ∧ Y3.drew.cell? ⟨X + 1, 1, none⟩ = some (.int .i64 a1) ∧ Y3.drew.cell? ⟨X + 1, 2, none⟩ = some (.string a2) ∧ Y3.drew.cell? ⟨X + 1, 3, none⟩ = some (.slice uo un uc) ∧ Y3.drew.cell? ⟨X + 1 + 1, 0, none⟩ = some (.bool b0) ∧ Y3.drew.cell? ⟨X + 1 + 1, 1, none⟩ = some (.int .i64 b1) ∧ Y3.drew.cell? ⟨X + 1 + 1, 2, none⟩ = some (.string b2) ∧ Y3.drew.cell? ⟨X + 1 + 1, 3, none⟩ = some (.slice vo vn vc)) := ⟨s0, s1, s2, s3, t0, t1, t2, t3, q0, q1, q2, q3, r0, r1, r2, r3⟩
      have HGd := hidM (HQ.out.drew)
      go_wp2
      clear s0 s1 s2 s3 t0 t1 t2 t3 q0 q1 q2 q3 r0 r1 r2 r3
      go_region_held3 (fun w' => w'.cell? ⟨C, 0, none⟩ = some (.bool a0) ∧ w'.cell? ⟨C, 1, none⟩ = some (.int .i64 a1) ∧ w'.cell? ⟨C, 2, none⟩ = some (.string a2) ∧ w'.cell? ⟨C, 3, none⟩ = some (.slice (some ⟨co, 0, none⟩) un (un + 2)) ∧ w'.cell? ⟨D, 0, none⟩ = some (.bool b0) ∧ w'.cell? ⟨D, 1, none⟩ = some (.int .i64 b1) ∧ w'.cell? ⟨D, 2, none⟩ = some (.string b2) ∧ w'.cell? ⟨D, 3, none⟩ = some (.slice (some ⟨dq, 0, none⟩) vn (vn + 2)) ∧ w'.cell? ⟨X + 1, 0, none⟩ = some (.bool a0) ∧ w'.cell? ⟨X + 1, 1, none⟩ = some (.int .i64 a1) ∧ w'.cell? ⟨X + 1, 2, none⟩ = some (.string a2) ∧ w'.cell? ⟨X + 1, 3, none⟩ = some (.slice uo un uc) ∧ w'.cell? ⟨X + 1 + 1, 0, none⟩ = some (.bool b0) ∧ w'.cell? ⟨X + 1 + 1, 1, none⟩ = some (.int .i64 b1) ∧ w'.cell? ⟨X + 1 + 1, 2, none⟩ = some (.string b2) ∧ w'.cell? ⟨X + 1 + 1, 3, none⟩ = some (.slice vo vn vc)) (first | with_reducible exact HC.out | with_reducible exact s16_gr HE1.out HC.out | with_reducible exact s16_gr HE2.out HC.out) (first | (go_at_call 21; (with_reducible show Calls _ _ #[.agg #[.bool a0, .int .i64 a1, .string a2, .slice (some ⟨co, 0, none⟩) un (un + 2)]] _ _); refine Calls.mono (Hh1.out _ HGd.out) ?_; rintro e u31 ⟨rfl, hg2⟩; have HE1 := hidM hg2; clear hg2) | (go_at_call 22; (with_reducible show Calls _ _ #[.agg #[.bool a0, .int .i64 a1, .string a2, .slice (some ⟨co, 0, none⟩) un (un + 2)]] _ _); refine Calls.mono (Hh2.out _ (HGd.out.trans HE1.out (fun _ _ h => h))) ?_; rintro e u32 ⟨rfl, hg2⟩; have HE2 := hidM (HE1.out.trans hg2 (fun _ _ h => h)); clear hg2))
      have hk := (Keeps.refl Y3 (fun _ => False)).drew.trans HE2.out (fun _ _ h => h)
      replace HB := hidM (HB.out.kp hk (fun _ _ h => h))
      replace HBC := hidM (HBC.out.kp hk id)
      replace HBD := hidM (HBD.out.kp hk id)
      replace HQ := hidM (HGd.out.trans HE2.out (fun _ _ h => h))
      clear hk HC HGd HE1 HE2
      obtain ⟨p0, p1, p2, p3, p4, p5, p6⟩ := HB.out.f.cells
      obtain ⟨s0, s1, s2, s3⟩ := HBC.out.cells
      obtain ⟨t0, t1, t2, t3⟩ := HBD.out.cells
      go_wp2_with (go_at_call 19; refine Hid.out ?_)
      unfold Hid
      refine Calls.mono (Hc1.out _ HQ.out) ?_
      rintro e' Y4 ⟨rfl, hg⟩
      replace HB := hidM (HB.out.kp hg (fun _ _ h => h))
      replace HBC := hidM (HBC.out.kp hg id)
      replace HBD := hidM (HBD.out.kp hg id)
      replace HQ := hidM (HQ.out.trans hg (fun _ _ h => h))
      clear hg p0 p1 p2 p3 p4 p5 p6 s0 s1 s2 s3 t0 t1 t2 t3
      obtain ⟨p0, p1, p2, p3, p4, p5, p6⟩ := HB.out.f.cells
      obtain ⟨s0, s1, s2, s3⟩ := HBC.out.cells
      obtain ⟨t0, t1, t2, t3⟩ := HBD.out.cells
      go_wp2_with (go_at_call 18; refine Hid.out ?_)
      unfold Hid
      refine Calls.mono (Hc2.out _ HQ.out) ?_
      rintro e' Y5 ⟨rfl, hg⟩
      replace HB := hidM (HB.out.kp hg (fun _ _ h => h))
      replace HBC := hidM (HBC.out.kp hg id)
      replace HBD := hidM (HBD.out.kp hg id)
      replace HQ := hidM (HQ.out.trans hg (fun _ _ h => h))
      clear hg p0 p1 p2 p3 p4 p5 p6 s0 s1 s2 s3 t0 t1 t2 t3
      obtain ⟨t0, t1, t2, t3⟩ := HBD.out.cells
      go_wp2_with (go_at_call 23; refine Hid.out ?_)
      unfold Hid
      refine Calls.mono (Htd.out _ HQ.out) ?_
      rintro e' Y6 ⟨rfl, hk, hp⟩
      replace HB := hidM (HB.out.kp hk (fun z hz h => by have := HN.out; omega))
      replace HBC := hidM (HBC.out.kp hk (fun h => by have := HN.out; omega))
      replace HBD := hidM (HBD.out.kp hk (fun h => by have := HN.out; omega))
      replace HG := hidM ((HG.out.trans HQ.out (fun _ _ h => h)).trans hk (fun j hj h => by have := HN.out; have := HX.out; omega))
      have HP3 := hidM hp
      clear hk hp t0 t1 t2 t3 HQ Htd Hc1 Hc2 Hh1 Hh2 HP2
      have HQ : Hid (Gr Y6 Y6) := Keeps.refl _ _
      obtain ⟨⟨y1, y2⟩, hc1, hc2⟩ := HP3.out.cmp
      have Hc1 := hidM hc1
      have Hc2 := hidM hc2
      clear hc1 hc2
      obtain ⟨zs, hs1, hs2⟩ := HP3.out.same
      have Hs1 := hidM hs1
      have Hs2 := hidM hs2
      clear hs1 hs2
      obtain ⟨p0, p1, p2, p3, p4, p5, p6⟩ := HB.out.f.cells
      obtain ⟨s0, s1, s2, s3⟩ := HBC.out.cells
      obtain ⟨t0, t1, t2, t3⟩ := HBD.out.cells
      go_wp2_with (go_at_call 19; refine Hid.out ?_)
      unfold Hid
      refine Calls.mono (Hc1.out _ HQ.out) ?_
      rintro e' Y7 ⟨rfl, hg⟩
      replace HB := hidM (HB.out.kp hg (fun _ _ h => h))
      replace HBC := hidM (HBC.out.kp hg id)
      replace HBD := hidM (HBD.out.kp hg id)
      replace HQ := hidM (HQ.out.trans hg (fun _ _ h => h))
      clear hg p0 p1 p2 p3 p4 p5 p6 s0 s1 s2 s3 t0 t1 t2 t3
      obtain ⟨p0, p1, p2, p3, p4, p5, p6⟩ := HB.out.f.cells
      obtain ⟨s0, s1, s2, s3⟩ := HBC.out.cells
      obtain ⟨t0, t1, t2, t3⟩ := HBD.out.cells
      go_wp2_with (go_at_call 18; refine Hid.out ?_)
      unfold Hid
      refine Calls.mono (Hc2.out _ HQ.out) ?_
      rintro e' Y8 ⟨rfl, hg⟩
      replace HB := hidM (HB.out.kp hg (fun _ _ h => h))
      replace HBC := hidM (HBC.out.kp hg id)
      replace HBD := hidM (HBD.out.kp hg id)
      replace HQ := hidM (HQ.out.trans hg (fun _ _ h => h))
      clear hg p0 p1 p2 p3 p4 p5 p6 s0 s1 s2 s3 t0 t1 t2 t3
      obtain ⟨s0, s1, s2, s3⟩ := HBC.out.cells
      obtain ⟨t0, t1, t2, t3⟩ := HBD.out.cells
      obtain ⟨q0, q1, q2, q3⟩ := HB.out.a.cells
      obtain ⟨r0, r1, r2, r3⟩ := HB.out.b.cells
      have HC : Hid (Y8.drew.cell? ⟨C, 0, none⟩ = some (.bool a0) ∧ Y8.drew.cell? ⟨C, 1, none⟩ = some (.int .i64 a1) ∧ Y8.drew.cell? ⟨C, 2, none⟩ = some (.string a2) ∧ Y8.drew.cell? ⟨C, 3, none⟩ = some (.slice (some ⟨co, 0, none⟩) un (un + 2)) ∧ Y8.drew.cell? ⟨D, 0, none⟩ = some (.bool b0) ∧ Y8.drew.cell? ⟨D, 1, none⟩ = some (.int .i64 b1) ∧ Y8.drew.cell? ⟨D, 2, none⟩ = some (.string b2) ∧ Y8.drew.cell? ⟨D, 3, none⟩ = some (.slice (some ⟨dq, 0, none⟩) vn (vn + 2)) ∧ Y8.drew.cell? ⟨X + 1, 0, none⟩ = some (.bool a0) ∧ Y8.drew.cell? ⟨X + 1, 1, none⟩ = some (.int .i64 a1) ∧ Y8.drew.cell? ⟨X + 1, 2, none⟩ = some (.string a2) ∧ Y8.drew.cell? ⟨X + 1, 3, none⟩ = some (.slice uo un uc) ∧ Y8.drew.cell? ⟨X + 1 + 1, 0, none⟩ = some (.bool b0) ∧ Y8.drew.cell? ⟨X + 1 + 1, 1, none⟩ = some (.int .i64 b1) ∧ Y8.drew.cell? ⟨X + 1 + 1, 2, none⟩ = some (.string b2) ∧ Y8.drew.cell? ⟨X + 1 + 1, 3, none⟩ = some (.slice vo vn vc)) := ⟨s0, s1, s2, s3, t0, t1, t2, t3, q0, q1, q2, q3, r0, r1, r2, r3⟩
      have HGd := hidM (HQ.out.drew)
      go_wp2
      clear s0 s1 s2 s3 t0 t1 t2 t3 q0 q1 q2 q3 r0 r1 r2 r3
      go_region_held3 (fun w' => w'.cell? ⟨C, 0, none⟩ = some (.bool a0) ∧ w'.cell? ⟨C, 1, none⟩ = some (.int .i64 a1) ∧ w'.cell? ⟨C, 2, none⟩ = some (.string a2) ∧ w'.cell? ⟨C, 3, none⟩ = some (.slice (some ⟨co, 0, none⟩) un (un + 2)) ∧ w'.cell? ⟨D, 0, none⟩ = some (.bool b0) ∧ w'.cell? ⟨D, 1, none⟩ = some (.int .i64 b1) ∧ w'.cell? ⟨D, 2, none⟩ = some (.string b2) ∧ w'.cell? ⟨D, 3, none⟩ = some (.slice (some ⟨dq, 0, none⟩) vn (vn + 2)) ∧ w'.cell? ⟨X + 1, 0, none⟩ = some (.bool a0) ∧ w'.cell? ⟨X + 1, 1, none⟩ = some (.int .i64 a1) ∧ w'.cell? ⟨X + 1, 2, none⟩ = some (.string a2) ∧ w'.cell? ⟨X + 1, 3, none⟩ = some (.slice uo un uc) ∧ w'.cell? ⟨X + 1 + 1, 0, none⟩ = some (.bool b0) ∧ w'.cell? ⟨X + 1 + 1, 1, none⟩ = some (.int .i64 b1) ∧ w'.cell? ⟨X + 1 + 1, 2, none⟩ = some (.string b2) ∧ w'.cell? ⟨X + 1 + 1, 3, none⟩ = some (.slice vo vn vc)) (first | with_reducible exact HC.out | with_reducible exact s16_gr HE1.out HC.out | with_reducible exact s16_gr HE2.out HC.out) (first | (go_at_call 20; (with_reducible show Calls _ _ #[.agg #[.bool a0, .int .i64 a1, .string a2, .slice (some ⟨co, 0, none⟩) un (un + 2)], .agg #[.bool b0, .int .i64 b1, .string b2, .slice (some ⟨dq, 0, none⟩) vn (vn + 2)]] _ _); refine Calls.mono (Hs1.out _ HGd.out) ?_; rintro e u41 ⟨rfl, hg2⟩; have HE1 := hidM hg2; clear hg2) | (go_at_call 14; (with_reducible show Calls _ _ #[.agg #[.bool a0, .int .i64 a1, .string a2, .slice (some ⟨co, 0, none⟩) un (un + 2)], .agg #[.bool b0, .int .i64 b1, .string b2, .slice (some ⟨dq, 0, none⟩) vn (vn + 2)]] _ _); refine Calls.mono (Hs2.out _ (HGd.out.trans HE1.out (fun _ _ h => h))) ?_; rintro e u42 ⟨rfl, hg2⟩; have HE2 := hidM (HE1.out.trans hg2 (fun _ _ h => h)); clear hg2))
      have hk := (Keeps.refl Y8 (fun _ => False)).drew.trans HE2.out (fun _ _ h => h)
      replace HB := hidM (HB.out.kp hk (fun _ _ h => h))
      replace HBC := hidM (HBC.out.kp hk id)
      replace HBD := hidM (HBD.out.kp hk id)
      replace HQ := hidM (HGd.out.trans HE2.out (fun _ _ h => h))
      clear hk HC HGd HE1 HE2
      replace HG := hidM (HG.out.trans HQ.out (fun _ _ h => h))
      go_wp2_with fail
      all_goals go_ret
      all_goals exact ⟨by first | rfl | simp, HG.out⟩
end Go.Proofs.YtcfdkadhclickaaDoor.Kit
