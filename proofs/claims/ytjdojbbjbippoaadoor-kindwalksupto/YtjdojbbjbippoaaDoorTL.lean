import Derived.Test.YtjdojbbjbippoaaDoorTM
namespace Go.Proofs.YtjdojbbjbippoaaDoor.Kit
open Go.RowKit Go.Shelf Go.Deep
set_option linter.unusedVariables false
attribute [local go_sem] Oper.semAt_some run_store_func

theorem alloc6 (W : World) (a b c d e f : Obj) : ((((((W.alloc a).alloc b).alloc c).alloc d).alloc e).alloc f).heap.size = W.heap.size + 6 ∧ ((((((W.alloc a).alloc b).alloc c).alloc d).alloc e).alloc f).heap[W.heap.size]? = some a ∧ ((((((W.alloc a).alloc b).alloc c).alloc d).alloc e).alloc f).heap[W.heap.size + 1]? = some b ∧ ((((((W.alloc a).alloc b).alloc c).alloc d).alloc e).alloc f).heap[W.heap.size + 2]? = some c ∧ ((((((W.alloc a).alloc b).alloc c).alloc d).alloc e).alloc f).heap[W.heap.size + 3]? = some d ∧ ((((((W.alloc a).alloc b).alloc c).alloc d).alloc e).alloc f).heap[W.heap.size + 4]? = some e ∧ ((((((W.alloc a).alloc b).alloc c).alloc d).alloc e).alloc f).heap[W.heap.size + 5]? = some f ∧ Gr W ((((((W.alloc a).alloc b).alloc c).alloc d).alloc e).alloc f) := by
  have h : ∀ (V : World) (o o' : Obj) (k : Nat), k < V.heap.size → V.heap[k]? = some o → (V.alloc o').heap[k]? = some o := fun V o o' k hk hv => (Below.heap_alloc V o' k hk).trans hv
  have n : ∀ (V : World) (o : Obj) (k : Nat), k = V.heap.size → (V.alloc o).heap[k]? = some o := fun V o k e => by subst e; exact World.alloc_heap_new V o
  refine ⟨by simp, ?_, ?_, ?_, ?_, ?_, ?_, (((((gr_alloc W a).alloc b).alloc c).alloc d).alloc e).alloc f⟩
  · exact h _ _ _ _ (by simp only [World.size_alloc]; omega) (h _ _ _ _ (by simp only [World.size_alloc]; omega) (h _ _ _ _ (by simp only [World.size_alloc]; omega) (h _ _ _ _ (by simp only [World.size_alloc]; omega) (h _ _ _ _ (by simp) (n _ _ _ rfl)))))
  · exact h _ _ _ _ (by simp only [World.size_alloc]; omega) (h _ _ _ _ (by simp only [World.size_alloc]; omega) (h _ _ _ _ (by simp only [World.size_alloc]; omega) (h _ _ _ _ (by simp) (n _ _ _ (by simp)))))
  · exact h _ _ _ _ (by simp only [World.size_alloc]; omega) (h _ _ _ _ (by simp only [World.size_alloc]; omega) (h _ _ _ _ (by simp) (n _ _ _ (by simp))))
  · exact h _ _ _ _ (by simp only [World.size_alloc]; omega) (h _ _ _ _ (by simp) (n _ _ _ (by simp)))
  · exact h _ _ _ _ (by simp) (n _ _ _ (by simp))
  · exact n _ _ _ (by simp)
set_option maxRecDepth 100000 in
set_option maxHeartbeats 40000000 in
theorem again_any (S : Nat → Prop) (D : Nat) (fo no : Option Addr) (cf cn : Nat) (fs : List FT) (ns : List (ByteArray × ByteArray)) (w : World) (hD : D ≤ big) (hS : ∀ b, S b → b < w.heap.size) (ha : Sch S w D fo no cf cn fs ns) (hm : Ans 21 #[.agg #[.slice fo fs.length cf, .slice no ns.length cn]] true w)
    (vo : Option Addr) (vc : Nat) (N : List LS) (hN : N = nodes D fs [] false) (hl : N.length ≤ 256) (hO : OutAt S w (.slice vo N.length vc) N) :
    Calls Tryd.prog 11 #[.agg #[.slice fo fs.length cf, .slice no ns.length cn], .slice vo N.length vc] w fun e w' => e = .returned (.bool true) ∧ Gr w w' := by
  have HWk := hidM (walk_any S D fo no cf ns.length cn fs true w hm ha.row hS)
  have HA := hidM ha
  have HS := hidM hS
  have HOut := hidM hO
  have HNe := hidM hN
  have HNl := hidM hl
  obtain ⟨n, hn⟩ : ∃ n, n = N.length := ⟨_, rfl⟩
  have HNn := hidM hn
  have hn256 : n ≤ 256 := by omega
  rw [← hn]
  clear ha hm hS hO hN hl hn
  obtain ⟨X, hX⟩ : ∃ X, X = w.heap.size := ⟨_, rfl⟩
  obtain ⟨W0, hW0⟩ : ∃ W0, ((w.alloc (.cells #[.slice fo fs.length cf, .slice no ns.length cn] 25)).alloc (.cells #[.slice vo n vc] 28)).alloc (.cells #[.bool false] 4) = W0 := ⟨_, rfl⟩
  have hz0 : W0.heap.size = X + 3 := by rw [← hW0, hX]; simp
  have x1 : W0.heap[X]? = some (.cells #[.slice fo fs.length cf, .slice no ns.length cn] 25) := by
    rw [← hW0, hX]; exact (Below.heap_alloc _ _ _ (by simp; omega)).trans ((Below.heap_alloc _ _ _ (by simp)).trans (World.alloc_heap_new w _))
  have x2 : W0.heap[X + 1]? = some (.cells #[.slice vo n vc] 28) := by
    rw [← hW0, hX]
    refine (Below.heap_alloc _ _ _ (by simp)).trans ?_
    have := World.alloc_heap_new (w.alloc (.cells #[.slice fo fs.length cf, .slice no ns.length cn] 25)) (.cells #[.slice vo n vc] 28)
    rwa [World.size_alloc] at this
  have x3 : W0.heap[X + 2]? = some (.cells #[.bool false] 4) := by
    rw [← hW0, hX]
    have := World.alloc_heap_new ((w.alloc (.cells #[.slice fo fs.length cf, .slice no ns.length cn] 25)).alloc (.cells #[.slice vo n vc] 28)) (.cells #[.bool false] 4)
    rwa [World.size_alloc, World.size_alloc] at this
  have hg0 : Gr w W0 := by rw [← hW0]; exact ((gr_alloc w _).alloc _).alloc _
  obtain ⟨p0, p1⟩ := cell2 x1
  have HX := hidM (And.intro hg0 (And.intro x1 (And.intro x2 (And.intro x3 hz0))))
  have HXe := hidM hX
  clear x1 x2 x3 hg0 hz0
  refine (callsIn_wide (n := 10)).1 ?_
  refine callsIn_of_wp_marks Tryd.func11 rfl trivial ?_ rfl
  simp only [Tryd.ntmps11, List.size_toArray, List.length_cons, List.length_nil, Nat.reduceAdd, Nat.reduceSub, Array.replicate_succ, Array.replicate_zero, List.push_toArray, List.append_toArray, List.nil_append, List.cons_append]
  refine wpIn_wide.2 ?_
  rw [hX] at p0 p1
  go_wp2_with (go_at_call 7; refine Hid.out ?_)
  unfold Hid
  try rw [← hX]
  refine Calls.mono (HWk.out _ HX.out.1) ?_
  rintro e W1 ⟨K, ko, kc, hq⟩
  obtain rfl := hq.e
  have hqr := hq.row
  have hqle := hq.le
  have hqk := hq.k
  simp only [if_true] at hqr hqle hqk
  have HQ := hidM (And.intro hq.g (And.intro hqk (And.intro hq.kn (And.intro hqle hqr))))
  clear hq hqr hqle hqk p0 p1 hX
  have hnil : ∀ w, (binOp .eql 32 (.func (.func 23) #[] #[.pointer (some ⟨K, 0, none⟩)]) .nilFunc).run Tryd.prog w = .ok (.bool false) w := fun w => by kernel_rfl
  have hA6 := alloc6 W1 (.cells #[.func (.func 23) #[] #[.pointer (some ⟨K, 0, none⟩)]] 32) (.cells #[] 26) (.cells #[.slice (some ⟨W1.heap.size + 1, 0, none⟩) 0 0] 67) (.cells #[] 38) (.cells #[.slice (some ⟨W1.heap.size + 3, 0, none⟩) 0 0] 22) (.cells #[.int .i64 0] 3)
  have HZK : Hid (K < W1.heap.size ∧ X + 2 < W1.heap.size) := ⟨lt_of_heap HQ.out.2.1, by have := HQ.out.1.size; have := HX.out.2.2.2.2; omega⟩
  go_wp2_with fail
  generalize hZ : W1.heap.size = Z at hA6 HZK ⊢
  simp only [Nat.add_assoc, Nat.reduceAdd]
  obtain ⟨W3, hW3⟩ : ∃ W3, (((((W1.alloc (.cells #[.func (.func 23) #[] #[.pointer (some ⟨K, 0, none⟩)]] 32)).alloc (.cells #[] 26)).alloc (.cells #[.slice (some ⟨Z + 1, 0, none⟩) 0 0] 67)).alloc (.cells #[] 38)).alloc (.cells #[.slice (some ⟨Z + 3, 0, none⟩) 0 0] 22)).alloc (.cells #[.int .i64 0] 3) = W3 := ⟨_, rfl⟩
  rw [hW3] at hA6 ⊢
  clear hW3
  obtain ⟨hz3, y0, y1, y2, y3, y4, y5, hg3⟩ := hA6
  have hgw3 : Gr w W3 := (HX.out.1.trans HQ.out.1 (fun _ _ h => h)).trans hg3 (fun _ _ h => h)
  have hk3 := (hg3.block K (lt_of_heap HQ.out.2.1) id).trans HQ.out.2.1
  have hseqr : ∀ (m : Nat) (V : World), 1 ≤ m → Keeps W3 V (fun b => Z < b) → SeqM m Tryd.prog 23 #[.pointer (some ⟨K, 0, none⟩)] encW (fun N O M x V => AtW N O M x V) (NewB W0 W1) (fun xs => WM xs (nodes D fs [] false)) (fun pre => ∃ ls, ls <+: nodes D fs [] false ∧ WM pre ls) V := fun m V hm kV => by
    have hlt := HZK.out.1
    have kb : ∀ b, b < Z → V.heap[b]? = W1.heap[b]? := fun b hb => (kV.block b (by omega) (by omega)).trans (hg3.block b (by omega) id)
    exact walk1_seq m K hm (NewB W0 W1) D ko kc fs V (cell1 ((kb K hlt).trans HQ.out.2.1)) (HQ.out.2.2.2.2.kept fun b hb => kb b (by have := hb.2; omega)) HQ.out.2.2.2.1 hD (fun b hb => by have := hb.2; have := kV.size; omega)
  have HSeq := hidM hseqr
  have hN1 := HX.out.2.2.1
  have hsX : W1.heap[X + 1]? = _ := (HQ.out.1.block _ (lt_of_heap HX.out.2.2.1) id).trans HX.out.2.2.1
  have hsR : W1.heap[X + 2]? = _ := (HQ.out.1.block _ (lt_of_heap HX.out.2.2.2.1) id).trans HX.out.2.2.2.1
  have hX3 := (hg3.block _ (lt_of_heap hsX) id).trans hsX
  have hR3 := (hg3.block _ (lt_of_heap hsR) id).trans hsR
  have HW3 := hidM (And.intro hgw3 (And.intro hX3 (And.intro hR3 y0)))
  have HY := hidM (And.intro y1 (And.intro y2 (And.intro y3 (And.intro y4 y5))))
  have HW0 := hidM HX.out.2.2.2.2
  have HZ3 := hidM hz3
  have HZe := hidM hZ
  have HXZ : Hid (X + 2 < Z ∧ w.heap.size ≤ X) := ⟨HZK.out.2, Nat.le_of_eq HXe.out.symm⟩
  clear hN1 hsX hsR hX3 hR3 hk3 hgw3 hg3 y0 y1 y2 y3 y4 y5 hseqr hZ HX HQ hz3
  refine (wpIn_wide (n := 10)).1 ?_
  refine rangeM (by decide) (gf := 23) (lb := #[.pointer (some ⟨K, 0, none⟩)]) rfl (enters_of Tryd.func23 (by kernel_rfl) rfl) (HSeq.out (10 - 1) W3 (by decide) (Keeps.refl _ _)) (fun _ => rfl) (fun b hb => by have := hb.2; have := HZ3.out; have := HZe.out; omega)
    (fun O M x A B h hA hO k => h.kept k (fun b hb => .inl (by omega)))
    (fun O M xs V => AgI W3 Z n (if 3 ≤ xs.length then (n : Int) else 0) O M xs V)
    (fun O O' M pre A B h hA hO k hO' => h.keep k (fun b hb => .inr (.inr ⟨hb, by have := (hO b hb).1; have := HZ3.out; omega⟩)) (fun b hb => (hO' b hb).2))
    ?hIr (fun _ _ pre _ => NxW N pre) (fun _ _ _ _ _ h _ => h)
    (fun V k hs => AgI.begin HZ3.out k (by have := HZ3.out; omega) HY.out.1 HY.out.2.1 HY.out.2.2.1 HY.out.2.2.2.1 HY.out.2.2.2.2)
    (fun x a' V => ∃ Bx, V.heap[Bx]? = some (.cells #[.string x.f.name, .bool x.f.nul, .int .i64 x.f.kind, .int .i64 x.f.width, .int .i64 x.f.id, .int .i64 x.f.index, .slice x.fo x.f.kids.length x.fc] 38) ∧ Z + 8 ≤ Bx ∧ x.hi ≤ Bx ∧ a' = { tmps := #[.agg #[.slice fo fs.length cf, .slice no ns.length cn], .slice vo n vc, .pointer (some ⟨X, 0, none⟩), .pointer (some ⟨X + 1, 0, none⟩), .pointer (some ⟨X + 2, 0, none⟩), .pointer (some ⟨Z, 0, none⟩), .pointer (some ⟨Z + 2, 0, none⟩), .pointer (some ⟨Z + 4, 0, none⟩), .pointer (some ⟨Z + 5, 0, none⟩), .slice x.wo x.path.length x.wc, .pointer (some ⟨Bx, 0, none⟩), undef, undef, undef, undef, undef, undef, undef, undef, undef, .agg #[.slice fo fs.length cf, .slice no ns.length cn], .func (.func 23) #[] #[.pointer (some ⟨K, 0, none⟩)], .func (.func 23) #[] #[.pointer (some ⟨K, 0, none⟩)], .bool false, .slice (some ⟨Z + 1, 0, none⟩) 0 0, .slice (some ⟨Z + 3, 0, none⟩) 0 0, .func (.func 23) #[] #[.pointer (some ⟨K, 0, none⟩)], .slice x.wo x.path.length x.wc, .agg #[.string x.f.name, .bool x.f.nul, .int .i64 x.f.kind, .int .i64 x.f.width, .int .i64 x.f.id, .int .i64 x.f.index, .slice x.fo x.f.kids.length x.fc], undef, undef, undef, undef, undef, undef, undef, undef, undef, undef, undef, undef, undef, undef, undef, undef, undef, undef, undef, undef, undef, undef, undef, undef, undef, undef, undef, undef, undef, undef, undef, undef, undef, undef, undef, undef, undef, undef, undef, undef, undef, undef, undef, undef, undef, undef, undef, undef, undef, undef, undef, undef, undef, undef, undef, undef, undef, undef, undef, undef, undef, undef, undef, undef, undef, undef, undef, undef, undef, undef, undef, undef, undef, undef, undef, undef, undef, undef, undef, undef, undef, undef, undef, undef, undef, undef, undef, undef, undef, undef, undef, undef, undef, undef, undef, undef, undef, undef, undef, undef, undef, undef, undef, undef, undef, undef, undef, undef, undef, undef, undef, undef, undef, undef, undef, undef, undef, undef, undef, undef, undef, undef, undef, undef, undef, undef, undef, undef, undef, undef, undef, undef, undef, undef, undef, undef, undef, undef, undef, undef, undef, undef, undef, undef, undef, undef, undef, undef, undef, undef, undef, undef, undef, undef, undef, undef, undef, undef, undef, undef, undef, undef, undef, undef, undef, undef, undef, undef, undef, undef, undef, undef, undef, undef, undef, undef, undef], defers := [] })
    (fun x a' Y Z' h hk => by
      obtain ⟨Bx, h1, h3, h5, h4⟩ := h
      exact ⟨Bx, (hk.block Bx (lt_of_heap h1) (fun e => by have := HZ3.out; omega)).trans h1, h3, h5, h4⟩)
    ?assign ?body ?done ?stop
  case hIr =>
    exact fun O M pre A B h k => h.keep k (fun b hb => by have := HZ3.out; omega) (fun b hb => .inl hb)
  case assign =>
    intro l O M x V K' hat hz hK
    unfold encW
    gi_wp2
    refine hK _ _ (gr_alloc V _) ⟨V.heap.size, World.alloc_heap_new V _, by have := HZ3.out; omega, hat.bn.2.2.2, rfl⟩
  case body =>
    rintro ll O M xs x a' V hi hat ⟨Bx, hbx, hBx, hBh, rfl⟩ hO hzV hrec hll
    have hz3 := HZ3.out
    have hat : AtW (Z + 8) O M x V := by have h := hat; rw [hz3] at h; exact h
    have hO8 : ∀ b, O b → Z + 8 ≤ b ∧ b < V.heap.size := fun b h => by have := hO b h; omega
    have hgV : Gr w V := HW3.out.1.trans hi.kw (fun j hj h => by have := HXZ.out; omega)
    obtain ⟨v6, v7, hr, ho6, ho7⟩ := hi.r
    obtain ⟨o6, c6, rfl⟩ := own_formN hr.o6
    obtain ⟨o7, c7, rfl⟩ := own_formN hr.o7
    have hxw := (hi.kw.block (X + 1) (lt_of_heap HW3.out.2.1) (by have := HXZ.out; omega)).trans HW3.out.2.1
    have hxr := (hi.kw.block (X + 2) (lt_of_heap HW3.out.2.2.1) (by have := HXZ.out; omega)).trans HW3.out.2.2.1
    have hxf := (hi.kw.block Z (lt_of_heap HW3.out.2.2.2) (by omega)).trans HW3.out.2.2.2
    obtain ⟨L, hL⟩ : ∃ L, L = xs.length := ⟨_, rfl⟩
    have HL := hidM hL
    rw [← hL] at hr ho6 ho7
    have q6 := cell1 hr.x6
    have q7 := cell1 hr.x7
    have qw := cell1 hxw
    have qr := cell1 hxr
    have zr := frz hxr 0
    have HI := hidM hi
    have HAT := hidM hat
    have HO8 := hidM hO8
    have HGV := hidM hgV
    have HR := hidM (And.intro hr (And.intro ho6 ho7))
    have HBX := hidM (And.intro hbx (And.intro hBx hBh))
    have HXS := hidM (And.intro hxw (And.intro hxr hxf))
    have HREC := hidM (And.intro hrec hll)
    have HLeft : Hid (∀ u, Left (NewB W0 W1) O W3.heap.size V (V.setCell ⟨X + 2, 0, none⟩ u)) := fun u => by
      have kk := (Keeps.refl V (fun b => b = X + 2)).setCell (p := ⟨X + 2, 0, none⟩) (fun _ => rfl) u
      have hz := HXZ.out
      refine ⟨fun b hb => ?_, kk.size⟩
      by_cases hbv : b < V.heap.size
      · refine kk.block b hbv fun e => ?_
        rcases hb with hb | hb | hb | hb
        · have := hb.1; have := HW0.out; omega
        · have := (HO8.out b hb).1; omega
        · have := HZ3.out; omega
        · have := HZ3.out; omega
      · have hse : (V.setCell ⟨X + 2, 0, none⟩ u).heap.size = V.heap.size := by simp [World.setCell]
        rw [Array.getElem?_eq_none (by omega), Array.getElem?_eq_none (by omega)]
    have hLn : L ≤ n := by rw [hL]; exact hi.len
    clear hi hat hO hzV hO8 hgV hr ho6 ho7 hxw hxr hxf hbx hBx hBh hz3 hL hrec hll
    by_cases hA : L = n
    · have hAb : ((L : Int) == (n : Int)) = true := by simp [hA]
      have HNx : Hid (NxW N (xs ++ [x])) := NxW.len (by have := HL.out; have := HNn.out; simp; omega)
      clear hA hLn q7
      gi_wp2
      exact ⟨HLeft.out _, HNx.out⟩
    · have hlt : L < n := by omega
      have hlN : L < N.length := by have := HNn.out; omega
      have hNe := HNn.out
      obtain ⟨g0, wb, wc, fo', fc', ao', ca', hvo, hvc, hcell, hnode⟩ := HOut.out.at_ hlN
      have qp : V.cell? ⟨g0, L * 10, none⟩ = some (.slice (some ⟨wb, 0, none⟩) N[L].path.length wc) := HGV.out.cell' (hcell 0 _ rfl) id
      obtain ⟨P, hP⟩ : ∃ P, P = N[L].path.length := ⟨_, rfl⟩
      rw [← hP] at qp
      have HP := hidM hP
      subst hvo
      have hAb : ((L : Int) == (n : Int)) = false := by simp; omega
      have hltI : (L : Int) < (n : Int) := by omega
      have HNd := hidM hnode
      have hvcI : n ≤ vc := by omega
      have HLN := hidM hlN
      clear hA hLn hcell hnode hP hvc hNe
      by_cases hB : x.path.length = P
      · have hBb : ((x.path.length : Int) == (P : Int)) = true := by simp [hB]
        have HB := hidM hB
        clear hB
        obtain ⟨hr, ho6, ho7⟩ := HR.out
        have hL := HL.out
        obtain ⟨Va, hVa⟩ : ∃ Va, V.alloc (.cells #[.slice x.wo x.path.length x.wc] 26) = Va := ⟨_, rfl⟩
        have hgVa : Gr V Va := by rw [← hVa]; exact gr_alloc V _
        have hsw : Src Tryd.prog 1 67 (.slice (some ⟨V.heap.size, 0, none⟩) 1 1) 1 [.slice x.wo x.path.length x.wc] Va := by rw [← hVa]; exact src_way V _ rfl
        have hown6 : Va.ownsRow 0 26 1 (.slice o6 L c6) L (xs.map wayV) := by
          have h := hr.o6
          rw [← hL] at h
          exact row_kp h fun b e => hgVa.block b (own_lt h b e) id
        have HSw := hidM hsw
        have HOw6 := hidM hown6
        have HGa := hidM hgVa
        have H63 : Hid (L + 1 ≤ 9223372036854775807) := by show _ ≤ _; omega
        have H24 : Hid ((L + 1) * 24 ≤ 140737488355328) := by show _ ≤ _; omega
        have H80 : Hid ((L + 1) * 80 ≤ 140737488355328) := by show _ ≤ _; omega
        clear hr ho6 ho7 hL hgVa hsw hown6
        gi_wp2_with (with_reducible show wpListIn _ _ Tryd.prog _ _ (Oper.mk (some 49) _ _ _ _ _ :: _) _ _; refine wpListIn_append_oldN (P := Tryd.prog) _ rfl (.tmp 46) (.tmp 48) 67 67 rfl 26 z26 1 24 Tryd.underlying67 info26 c26 (.slice o6 L c6) L (xs.map wayV) rfl HOw6.out (.slice (some ⟨V.heap.size, 0, none⟩) 1 1) 1 (by decide) [.slice x.wo x.path.length x.wc] rfl HSw.out H63.out H24.out ?_; intro v' w4 ha1 ha2 ha3; obtain ⟨u6, d6, rfl⟩ := own_formN ha1; replace ha3 := hidM (And.intro ha1 ha3); clear ha1 ha2; refine Hid.out ?_)
        refine (show ∀ {P : Prop}, P → Hid P from fun h => h) ?_
        obtain ⟨kw4, hn6⟩ := app_keeps HGa.out ha3.out.2
        have hr6 := ha3.out.1
        have hb2 : w4.heap[Z + 2]? = _ := (kw4.block _ (lt_of_heap HR.out.1.x6) (fun e => (HR.out.2.1 _ e).2.2.1 rfl)).trans HR.out.1.x6
        have s2 := cell1 hb2
        have f2 := frz hb2 0
        obtain ⟨V5, hV5⟩ : ∃ V5, w4.setCell ⟨Z + 2, 0, none⟩ (.slice u6 (L + 1) d6) = V5 := ⟨_, rfl⟩
        have hb5 : V5.heap[Z + 2]? = some (.cells #[.slice u6 (L + 1) d6] 67 (0, 0)) := by rw [← hV5, setc (j := 0) hb2]; simp
        have k5 : Keeps w4 V5 (fun b => b = Z + 2) := by rw [← hV5]; exact keep1 (j := 0) (Keeps.refl w4 (fun b => b = Z + 2)) _
        have kV5 : Keeps V V5 (fun b => b = Z + 2 ∨ (Value.slice o6 L c6).ownBlock = some b) := (kw4.mono fun b _ h => .inr h).trans k5 (fun b _ h => .inl h)
        have hne6 : ∀ g, (Value.slice u6 (L + 1) d6).ownBlock = some g → g ≠ Z + 2 := fun g e => by
          rcases hn6 with h | h
          · exact (HR.out.2.1 g (h ▸ e)).2.2.1
          · have := h g e; have := lt_of_heap HR.out.1.x6; omega
        have hr65 : V5.ownsRow 0 26 1 (.slice u6 (L + 1) d6) (L + 1) (xs.map wayV ++ [wayV x]) := row_kp hr6 fun g e => k5.block g (own_lt hr6 g e) (hne6 g e)
        have hb4 : V5.heap[Z + 4]? = some (.cells #[.slice o7 L c7] 22 (0, 0)) := (kV5.block _ (lt_of_heap HR.out.1.x7) (fun e => by
          rcases e with e | e
          · omega
          · exact (HR.out.2.1 _ e).2.2.2.1 rfl)).trans HR.out.1.x7
        have hbx5 := (kV5.block Bx (lt_of_heap HBX.out.1) (fun e => by
          have h1 := HBX.out.2
          rcases e with e | e
          · omega
          · have h2 := (HR.out.2.1 _ e).2.2.2.2.2.2
            have h3 := HAT.out.ap
            have h4 := HAT.out.bn
            omega)).trans HBX.out.1
        have H5 := hidM (And.intro kV5 (And.intro hb5 (And.intro hr65 (And.intro hn6 (And.intro hb4 hbx5)))))
        clear kw4 hn6 hr6 hb2 hb5 k5 kV5 hne6 hr65 hb4 hbx5 ha3 q6 q7 qw qr zr qp hVa
        gi_wp2_with fail
        have hL := HL.out
        have HLy : Hid ((xs.flatMap fCs).length = L * 7) := by show _ = _; rw [fCs_len, hL]
        have HX5 : Hid (Sx7 Bx x V5) := H5.out.2.2.2.2.2
        obtain ⟨V6, hV6⟩ : ∃ V6, V5.alloc (.cells #[.string ⟨#[]⟩, .bool false, .int .i64 0, .int .i64 0, .int .i64 0, .int .i64 0, .slice none 0 0] 38) = V6 := ⟨_, rfl⟩
        have hg6 : Gr V5 V6 := by rw [← hV6]; exact gr_alloc V5 _
        have HX6 : Hid (Sx7 Bx x V6) := (hg6.block _ (lt_of_heap HX5.out) id).trans HX5.out
        have hr7 : V5.ownsRow 0 38 7 (.slice o7 L c7) L (xs.flatMap fCs) := by
          have h := HR.out.1.o7
          rw [← hL] at h
          exact row_kp h fun g e => H5.out.1.block g (own_lt h g e) (fun e' => by
            rcases e' with e' | e'
            · exact (HR.out.2.2 g e).2.2.1 e'
            · exact row_apart h HR.out.1.o6 (by decide) e e')
        have HOw7 : Hid (V6.drew.ownsRow 0 38 7 (.slice o7 L c7) L (xs.flatMap fCs)) := row_kp hr7 fun g e => hg6.block g (own_lt hr7 g e) id
        have HSrc7 : Hid (Src Tryd.prog 7 22 (.slice (some ⟨V5.heap.size, 0, none⟩) 1 1) 1 [.string ⟨#[]⟩, .bool false, .int .i64 0, .int .i64 0, .int .i64 0, .int .i64 0, .slice none 0 0] V6.drew) := by
          rw [← hV6]
          exact src_fld V5.drew _ rfl ⟨#[]⟩
        have HMid : Hid (∀ w7 g7 d7, w7.ownsRow 0 38 7 (.slice (some ⟨g7, 0, none⟩) (L + 1) d7) (L + 1) (xs.flatMap fCs ++ [.string ⟨#[]⟩, .bool false, .int .i64 0, .int .i64 0, .int .i64 0, .int .i64 0, .slice none 0 0]) → (((Value.slice (some ⟨g7, 0, none⟩) (L + 1) d7).ownBlock = (Value.slice o7 L c7).ownBlock ∧ V6.drew.grownBy w7 (Value.slice o7 L c7).ownBlock) ∨ ((∀ g, (Value.slice (some ⟨g7, 0, none⟩) (L + 1) d7).ownBlock = some g → V6.drew.heap.size ≤ g) ∧ Keeps V6.drew w7 (fun _ => False))) → Mid13 V5 w7 Z L Bx x o7 c7 g7 d7 (xs.flatMap fCs)) := fun w7 g7 d7 h1 h2 => by
          obtain ⟨k, hn⟩ := app_keeps (hg6.trans gr_drew (fun _ _ h => h)) h2
          have hb4 := H5.out.2.2.2.2.1
          have hz4 : Z + 4 < V5.heap.size := lt_of_heap hb4
          have hbxl : Bx < V5.heap.size := lt_of_heap HX5.out
          have e7 : ∀ g, (Value.slice o7 L c7).ownBlock = some g → g ≠ Z + 4 ∧ g ≠ Bx := fun g e => by
            have q := HR.out.2.2 g e
            have q1 := HAT.out.ap
            have q2 := HAT.out.bn
            have q3 := HBX.out.2
            exact ⟨q.2.2.2.1, by omega⟩
          have e8 : g7 ≠ Z + 4 ∧ g7 ≠ Bx := by
            rcases hn with q | q
            · exact e7 g7 (q ▸ rfl)
            · have := q g7 rfl; omega
          exact ⟨k, (k.block _ hz4 (fun e => (e7 _ e).1 rfl)).trans hb4, h1, hn, e8.1, e8.2, by have := HBX.out.2; omega, (k.block _ hbxl (fun e => (e7 _ e).2 rfl)).trans HX5.out⟩
        have t4 := cell1 H5.out.2.2.2.2.1
        have t4a : V6.cell? ⟨Z + 4, 0, none⟩ = some (.slice o7 L c7) := hg6.cell' t4 id
        have hLL : (L : Int) < (L : Int) + 1 := by omega
        clear hL hg6 hr7 s2 f2
        refine wpIn_mid (fun a w => ∃ g7 d7, Hid (Fin13 V5 w Z L o7 c7 g7 d7 (xs.flatMap fCs ++ fCs x)) ∧ a = { tmps := #[.agg #[.slice fo fs.length cf, .slice no ns.length cn], .slice (some ⟨g0, 0, none⟩) n vc, .pointer (some ⟨X, 0, none⟩), .pointer (some ⟨X + 1, 0, none⟩), .pointer (some ⟨X + 2, 0, none⟩), .pointer (some ⟨Z, 0, none⟩), .pointer (some ⟨Z + 2, 0, none⟩), .pointer (some ⟨Z + 4, 0, none⟩), .pointer (some ⟨Z + 5, 0, none⟩), .slice x.wo x.path.length x.wc, .pointer (some ⟨Bx, 0, none⟩), undef, undef, undef, undef, undef, undef, undef, undef, undef, .agg #[.slice fo fs.length cf, .slice no ns.length cn], .func (.func 23) #[] #[.pointer (some ⟨K, 0, none⟩)], .func (.func 23) #[] #[.pointer (some ⟨K, 0, none⟩)], .bool false, .slice (some ⟨Z + 1, 0, none⟩) 0 0, .slice (some ⟨Z + 3, 0, none⟩) 0 0, .func (.func 23) #[] #[.pointer (some ⟨K, 0, none⟩)], .slice x.wo x.path.length x.wc, .agg #[.string x.f.name, .bool x.f.nul, .int .i64 x.f.kind, .int .i64 x.f.width, .int .i64 x.f.id, .int .i64 x.f.index, .slice x.fo x.f.kids.length x.fc], .slice o6 L c6, .int .i64 (L : Int), .slice (some ⟨g0, 0, none⟩) n vc, .int .i64 (n : Int), .bool false, .bool false, .slice x.wo x.path.length x.wc, .int .i64 (x.path.length : Int), .slice (some ⟨g0, 0, none⟩) n vc, .slice o6 L c6, .int .i64 (L : Int), .pointer (some ⟨g0, L * 10, none⟩), .pointer (some ⟨g0, L * 10, none⟩), .slice (some ⟨wb, 0, none⟩) P wc, .int .i64 (P : Int), .bool false, .bool false, .slice o6 L c6, .slice x.wo x.path.length x.wc, .slice (some ⟨V.heap.size, 0, none⟩) 1 1, .slice u6 (L + 1) d6, .slice o7 L c7, .agg #[.string x.f.name, .bool x.f.nul, .int .i64 x.f.kind, .int .i64 x.f.width, .int .i64 x.f.id, .int .i64 x.f.index, .slice x.fo x.f.kids.length x.fc], .int .i64 (L : Int), .slice (some ⟨V5.heap.size, 0, none⟩) 1 1, .slice (some ⟨g7, 0, none⟩) (L + 1) d7, .pointer (some ⟨g7, L * 7, none⟩), undef, undef, undef, undef, undef, undef, undef, undef, undef, undef, undef, undef, undef, undef, undef, undef, undef, undef, undef, undef, undef, undef, undef, undef, undef, undef, undef, undef, undef, undef, undef, undef, undef, undef, undef, undef, undef, undef, undef, undef, undef, undef, undef, undef, undef, undef, undef, undef, undef, undef, undef, undef, undef, undef, undef, undef, undef, undef, undef, undef, undef, undef, undef, undef, undef, undef, undef, undef, undef, undef, undef, undef, undef, undef, undef, undef, undef, undef, undef, undef, undef, undef, undef, undef, undef, undef, undef, undef, undef, undef, undef, undef, undef, undef, undef, undef, undef, undef, undef, undef, undef, undef, undef, undef, undef, undef, undef, undef, undef, undef, undef, undef, undef, undef, undef, undef, undef, undef, undef, undef, undef, undef, undef, undef, undef, undef, undef, undef, undef, undef, undef, undef, undef, undef, undef, undef, undef, undef, undef, undef, undef, undef, undef, undef, undef, undef, undef, undef, undef, undef], defers := [] }) ?_ ?_
        · have hHeld : (fun w' : World => w'.cell? ⟨Bx, 0, none⟩ = some (.string x.f.name) ∧ w'.cell? ⟨Bx, 1, none⟩ = some (.bool x.f.nul) ∧ w'.cell? ⟨Bx, 2, none⟩ = some (.int .i64 x.f.kind) ∧ w'.cell? ⟨Bx, 3, none⟩ = some (.int .i64 x.f.width) ∧ w'.cell? ⟨Bx, 4, none⟩ = some (.int .i64 x.f.id) ∧ w'.cell? ⟨Bx, 5, none⟩ = some (.int .i64 x.f.index) ∧ w'.cell? ⟨Bx, 6, none⟩ = some (.slice x.fo x.f.kids.length x.fc)) V5.drew := HX5.out.cells
          refine region_round (S := fun w' => w'.cell? ⟨Bx, 0, none⟩ = some (.string x.f.name) ∧ w'.cell? ⟨Bx, 1, none⟩ = some (.bool x.f.nul) ∧ w'.cell? ⟨Bx, 2, none⟩ = some (.int .i64 x.f.kind) ∧ w'.cell? ⟨Bx, 3, none⟩ = some (.int .i64 x.f.width) ∧ w'.cell? ⟨Bx, 4, none⟩ = some (.int .i64 x.f.id) ∧ w'.cell? ⟨Bx, 5, none⟩ = some (.int .i64 x.f.index) ∧ w'.cell? ⟨Bx, 6, none⟩ = some (.slice x.fo x.f.kids.length x.fc)) (by kernel_rfl) (noDefer_spec (by kernel_rfl)) (fun ⟨_, _, h⟩ => h) ?_
          refine wpAnyH_take (i := 1) (oi := { dst := some 51, op := Go.Op.load 38 (Go.Operand.tmp 10), type := 38, pos := "keep.go:65", after := #[], guard := none }) (v := ?v1a1) rfl (by kernel_rfl) (by kernel_rfl) (by kernel_rfl) (fun _ _ _ h => h) (Or.inl ⟨by rfl, ?y1a1⟩) (by assumption) ?r1a1
          case y1a1 => (intro w hSw; obtain ⟨s0, s1, s2, s3, s4, s5, s6⟩ := hSw; go_simp; (try with_reducible rfl))
          (try simp only [Act.put]); (try simp only [List.setIfInBounds_toArray]); (try simp only [List.set_cons_succ]); (try simp only [List.set_cons_zero])
          refine wpAnyH_ready (rs := [0, 3]) (by kernel_rfl) (by simp) ?_
          refine AllReadyH.cons (o := { dst := some 50, op := Go.Op.load 22 (Go.Operand.tmp 7), type := 22, pos := "keep.go:65", after := #[], guard := none }) rfl (fun Kc hK => ?_) (AllReadyH.cons (o := { dst := some 53, op := Go.Op.buildSlice 22 1 #[(0, Go.Operand.const (Go.Value.agg #[Go.Value.string { data := #[] }, Go.Value.bool false, Go.Value.int Go.IntKind.i64 0, Go.Value.int Go.IntKind.i64 0, Go.Value.int Go.IntKind.i64 0, Go.Value.int Go.IntKind.i64 0, Go.Value.slice none 0 0]))], type := 22, pos := "keep.go:65", after := #[], guard := none }) rfl (fun Kc hK => ?_) AllReadyH.nil)
          · go_simp
            refine hK.out _ _ HX5.out.cells (fun hHeld => ?_)
            clear hK Kc
            (try simp only [Act.put]); (try simp only [List.setIfInBounds_toArray]); (try simp only [List.set_cons_succ]); (try simp only [List.set_cons_zero])
            refine wpAnyH_take (i := 2) (oi := { dst := some 52, op := Go.Op.call { callee := Go.Callee.builtin Go.Builtin.len, args := #[Go.Operand.tmp 50], argTypes := #[22] }, type := 3, pos := "keep.go:65", after := #[{ on := 0, ground := Go.Ground.data }], guard := none }) (v := ?v2b1) rfl (by kernel_rfl) (by kernel_rfl) (by kernel_rfl) (fun _ _ _ h => h) (Or.inl ⟨by rfl, ?y2b1⟩) (by assumption) ?r2b1
            case y2b1 => (intro w hSw; obtain ⟨s0, s1, s2, s3, s4, s5, s6⟩ := hSw; go_simp; (try with_reducible rfl))
            (try simp only [Act.put]); (try simp only [List.setIfInBounds_toArray]); (try simp only [List.set_cons_succ]); (try simp only [List.set_cons_zero])
            refine wpAnyH_ready (rs := [3]) (by kernel_rfl) (by simp) ?_
            refine AllReadyH.cons (o := { dst := some 53, op := Go.Op.buildSlice 22 1 #[(0, Go.Operand.const (Go.Value.agg #[Go.Value.string { data := #[] }, Go.Value.bool false, Go.Value.int Go.IntKind.i64 0, Go.Value.int Go.IntKind.i64 0, Go.Value.int Go.IntKind.i64 0, Go.Value.int Go.IntKind.i64 0, Go.Value.slice none 0 0]))], type := 22, pos := "keep.go:65", after := #[], guard := none }) rfl (fun Kc hK => ?_) AllReadyH.nil
            go_simp
            refine hK.out _ _ HX6.out.cells (fun hHeld => ?_)
            clear hK Kc
            (try simp only [Act.put]); (try simp only [List.setIfInBounds_toArray]); (try simp only [List.set_cons_succ]); (try simp only [List.set_cons_zero])
            refine wpAnyH_ready (rs := [4]) (by kernel_rfl) (by simp) ?_
            refine AllReadyH.cons (o := { dst := some 54, op := Go.Op.call { callee := Go.Callee.builtin Go.Builtin.append, args := #[Go.Operand.tmp 50, Go.Operand.tmp 53], argTypes := #[22, 22] }, type := 22, pos := "keep.go:65", after := #[{ on := 0, ground := Go.Ground.data }, { on := 3, ground := Go.Ground.data }, { on := 0, ground := Go.Ground.phase }, { on := 1, ground := Go.Ground.phase }, { on := 2, ground := Go.Ground.phase }, { on := 3, ground := Go.Ground.phase }], guard := none }) rfl (fun Kc hK => ?_) AllReadyH.nil
            refine step_append_oldN (P := Tryd.prog) _ rfl (.tmp 50) (.tmp 53) 22 22 rfl 38 z37 7 80 Tryd.underlying22 info37 c37 (.slice o7 L c7) L (xs.flatMap fCs) rfl HOw7.out (.slice (some ⟨V5.heap.size, 0, none⟩) 1 1) 1 (by decide) [.string ⟨#[]⟩, .bool false, .int .i64 0, .int .i64 0, .int .i64 0, .int .i64 0, .slice none 0 0] rfl HSrc7.out H63.out H80.out ?_
            intro v' w7 ha1 ha2 ha3
            obtain ⟨u7, d7, rfl⟩ := own_formN ha1
            obtain ⟨g7, rfl⟩ := own_some ha1 (by omega)
            have HM7 := hidM (HMid.out w7 g7 d7 ha1 ha3)
            obtain ⟨⟨m0, m1, m2, m3, m4, m5, m6⟩, mz⟩ := HM7.out.cells HLy.out
            have z0 := cell1 HM7.out.b
            have z1 := frz HM7.out.b 0
            clear ha1 ha2 ha3
            refine hK.out _ _ HM7.out.sx.cells (fun hHeld => ?_)
            clear hK Kc
            (try simp only [Act.put]); (try simp only [List.setIfInBounds_toArray]); (try simp only [List.set_cons_succ]); (try simp only [List.set_cons_zero])
            refine wpAnyH_take (i := 5) (oi := { dst := some 55, op := Go.Op.indexAddr 22 (Go.Operand.tmp 54) (Go.Operand.tmp 52), type := 0, pos := "keep.go:65", after := #[{ on := 4, ground := Go.Ground.data }, { on := 2, ground := Go.Ground.data }, { on := 0, ground := Go.Ground.phase }, { on := 1, ground := Go.Ground.phase }, { on := 2, ground := Go.Ground.phase }, { on := 3, ground := Go.Ground.phase }, { on := 4, ground := Go.Ground.phase }, { on := 7, ground := Go.Ground.gcOnly Go.Departure.appendInPlace }], guard := none }) (v := ?v5cl1) rfl (by kernel_rfl) (by kernel_rfl) (by kernel_rfl) (fun _ _ _ h => h) (Or.inl ⟨by rfl, ?y5cl1⟩) (by assumption) ?r5cl1
            case y5cl1 => (intro w hSw; obtain ⟨s0, s1, s2, s3, s4, s5, s6⟩ := hSw; go_simp; (try with_reducible rfl))
            (try simp only [Act.put]); (try simp only [List.setIfInBounds_toArray]); (try simp only [List.set_cons_succ]); (try simp only [List.set_cons_zero])
            refine wpAnyH_ready (rs := [6, 7]) (by kernel_rfl) (by simp) ?_
            refine AllReadyH.cons (o := { dst := none, op := Go.Op.store 38 (Go.Operand.tmp 55) (Go.Operand.tmp 51), type := 0, pos := "keep.go:65", after := #[{ on := 5, ground := Go.Ground.data }, { on := 1, ground := Go.Ground.data }, { on := 4, ground := Go.Ground.chain }, { on := 0, ground := Go.Ground.phase }, { on := 1, ground := Go.Ground.phase }, { on := 2, ground := Go.Ground.phase }, { on := 3, ground := Go.Ground.phase }, { on := 4, ground := Go.Ground.phase }, { on := 7, ground := Go.Ground.gcOnly Go.Departure.appendInPlace }], guard := none }) rfl (fun Kc hK => ?_) (AllReadyH.cons (o := { dst := none, op := Go.Op.store 22 (Go.Operand.tmp 7) (Go.Operand.tmp 54), type := 0, pos := "keep.go:65", after := #[{ on := 4, ground := Go.Ground.data }, { on := 4, ground := Go.Ground.chain }, { on := 6, ground := Go.Ground.textOnly Go.Departure.appendInPlace }, { on := 0, ground := Go.Ground.phase }, { on := 1, ground := Go.Ground.phase }, { on := 2, ground := Go.Ground.phase }, { on := 3, ground := Go.Ground.phase }, { on := 4, ground := Go.Ground.phase }, { on := 5, ground := Go.Ground.textOnly Go.Departure.appendInPlace }, { on := 6, ground := Go.Ground.textOnly Go.Departure.appendInPlace }], guard := none }) rfl (fun Kc hK => ?_) AllReadyH.nil)
            · go_simp
              obtain ⟨w8, hw8⟩ : ∃ w8, (((((((w7.setCell ⟨g7, L * 7, none⟩ (.string x.f.name)).setCell ⟨g7, L * 7 + 1, none⟩ (.bool x.f.nul)).setCell ⟨g7, L * 7 + 2, none⟩ (.int .i64 x.f.kind)).setCell ⟨g7, L * 7 + 3, none⟩ (.int .i64 x.f.width)).setCell ⟨g7, L * 7 + 4, none⟩ (.int .i64 x.f.id)).setCell ⟨g7, L * 7 + 5, none⟩ (.int .i64 x.f.index)).setCell ⟨g7, L * 7 + 6, none⟩ (.slice x.fo x.f.kids.length x.fc)) = w8 := ⟨_, rfl⟩
              rw [hw8]
              have hf : Fin13 V5 (w8.setCell ⟨Z + 4, 0, none⟩ (.slice (some ⟨g7, 0, none⟩) (L + 1) d7)) Z L o7 c7 g7 d7 (xs.flatMap fCs ++ fCs x) := by rw [← hw8]; exact HM7.out.fin HLy.out
              have hk8 : Keeps w7 w8 (fun z => z = g7) := by rw [← hw8]; exact put7_kp w7 g7 (L * 7) _ _ _ _ _ _ _
              have hb8 := (hk8.block _ (lt_of_heap HM7.out.b) (fun e => HM7.out.nz e.symm)).trans HM7.out.b
              have hx8 : Sx7 Bx x w8 := (hk8.block _ (lt_of_heap HM7.out.sx) (fun e => HM7.out.nb e.symm)).trans HM7.out.sx
              have t0 := cell1 hb8
              have t1 := frz hb8 0
              have HF := hidM hf
              have HX8 := hidM hx8
              clear hw8 hk8 hb8 hf hx8 m0 m1 m2 m3 m4 m5 m6 mz z0 z1
              refine hK.out _ _ HX8.out.cells (fun hHeld => ?_)
              clear hK Kc
              (try simp only [Act.put]); (try simp only [List.setIfInBounds_toArray]); (try simp only [List.set_cons_succ]); (try simp only [List.set_cons_zero])
              refine wpAnyH_ready (rs := [7]) (by kernel_rfl) (by simp) ?_
              refine AllReadyH.cons (o := { dst := none, op := Go.Op.store 22 (Go.Operand.tmp 7) (Go.Operand.tmp 54), type := 0, pos := "keep.go:65", after := #[{ on := 4, ground := Go.Ground.data }, { on := 4, ground := Go.Ground.chain }, { on := 6, ground := Go.Ground.textOnly Go.Departure.appendInPlace }, { on := 0, ground := Go.Ground.phase }, { on := 1, ground := Go.Ground.phase }, { on := 2, ground := Go.Ground.phase }, { on := 3, ground := Go.Ground.phase }, { on := 4, ground := Go.Ground.phase }, { on := 5, ground := Go.Ground.textOnly Go.Departure.appendInPlace }, { on := 6, ground := Go.Ground.textOnly Go.Departure.appendInPlace }], guard := none }) rfl (fun Kc hK => ?_) AllReadyH.nil
              go_simp
              refine hK.out _ _ (by have h := HX8.out; exact Sx7.cells (show Sx7 Bx x _ from (heap_setCell_other _ _ _ _ (by simpa using HM7.out.bz)).trans h)) (fun hHeld => ?_)
              clear hK Kc
              (try simp only [Act.put]); (try simp only [List.setIfInBounds_toArray]); (try simp only [List.set_cons_succ]); (try simp only [List.set_cons_zero])
              refine wpAnyH_done (by kernel_rfl) ?_ _
              exact ⟨g7, d7, HF.out, rfl⟩
            · go_simp
              obtain ⟨w8, hw8⟩ : ∃ w8, w7.setCell ⟨Z + 4, 0, none⟩ (.slice (some ⟨g7, 0, none⟩) (L + 1) d7) = w8 := ⟨_, rfl⟩
              rw [hw8]
              have hf : Fin13 V5 (((((((w8.setCell ⟨g7, L * 7, none⟩ (.string x.f.name)).setCell ⟨g7, L * 7 + 1, none⟩ (.bool x.f.nul)).setCell ⟨g7, L * 7 + 2, none⟩ (.int .i64 x.f.kind)).setCell ⟨g7, L * 7 + 3, none⟩ (.int .i64 x.f.width)).setCell ⟨g7, L * 7 + 4, none⟩ (.int .i64 x.f.id)).setCell ⟨g7, L * 7 + 5, none⟩ (.int .i64 x.f.index)).setCell ⟨g7, L * 7 + 6, none⟩ (.slice x.fo x.f.kids.length x.fc)) Z L o7 c7 g7 d7 (xs.flatMap fCs ++ fCs x) := by rw [← hw8]; exact HM7.out.fin2 HLy.out
              have hk8 : Keeps w7 w8 (fun z => z = Z + 4) := by rw [← hw8]; exact keep1 (j := 0) (Keeps.refl w7 (fun z => z = Z + 4)) _
              have hx8 : Sx7 Bx x w8 := (hk8.block _ (lt_of_heap HM7.out.sx) HM7.out.bz).trans HM7.out.sx
              have hg8 : w8.heap[g7]? = w7.heap[g7]? := hk8.block g7 (own_lt HM7.out.r g7 rfl) HM7.out.nz
              have ce : ∀ j, w8.cell? ⟨g7, j, none⟩ = w7.cell? ⟨g7, j, none⟩ := fun j => World.cell?_of_block (w := w7) hg8
              have n0 := (ce _).trans m0
              have n1 := (ce _).trans m1
              have n2 := (ce _).trans m2
              have n3 := (ce _).trans m3
              have n4 := (ce _).trans m4
              have n5 := (ce _).trans m5
              have n6 := (ce _).trans m6
              have nz : ∀ j, w8.frozen? ⟨g7, j, none⟩ = false := own_frz (row_kp HM7.out.r fun g e => by simp [Value.ownBlock] at e; rw [← e]; exact hg8)
              have HF := hidM hf
              have HX8 := hidM hx8
              clear hw8 hk8 hf hx8 hg8 ce m0 m1 m2 m3 m4 m5 m6 mz z0 z1
              refine hK.out _ _ HX8.out.cells (fun hHeld => ?_)
              clear hK Kc
              (try simp only [Act.put]); (try simp only [List.setIfInBounds_toArray]); (try simp only [List.set_cons_succ]); (try simp only [List.set_cons_zero])
              refine wpAnyH_ready (rs := [6]) (by kernel_rfl) (by simp) ?_
              refine AllReadyH.cons (o := { dst := none, op := Go.Op.store 38 (Go.Operand.tmp 55) (Go.Operand.tmp 51), type := 0, pos := "keep.go:65", after := #[{ on := 5, ground := Go.Ground.data }, { on := 1, ground := Go.Ground.data }, { on := 4, ground := Go.Ground.chain }, { on := 0, ground := Go.Ground.phase }, { on := 1, ground := Go.Ground.phase }, { on := 2, ground := Go.Ground.phase }, { on := 3, ground := Go.Ground.phase }, { on := 4, ground := Go.Ground.phase }, { on := 7, ground := Go.Ground.gcOnly Go.Departure.appendInPlace }], guard := none }) rfl (fun Kc hK => ?_) AllReadyH.nil
              go_simp
              refine hK.out _ _ (Sx7.cells (show Sx7 Bx x _ from ((put7_kp w8 g7 (L * 7) (.string x.f.name) (.bool x.f.nul) (.int .i64 x.f.kind) (.int .i64 x.f.width) (.int .i64 x.f.id) (.int .i64 x.f.index) (.slice x.fo x.f.kids.length x.fc)).block _ (lt_of_heap HX8.out) (fun e => HM7.out.nb e.symm)).trans HX8.out)) (fun hHeld => ?_)
              clear hK Kc
              (try simp only [Act.put]); (try simp only [List.setIfInBounds_toArray]); (try simp only [List.set_cons_succ]); (try simp only [List.set_cons_zero])
              refine wpAnyH_done (by kernel_rfl) ?_ _
              exact ⟨g7, d7, HF.out, rfl⟩
          · go_simp
            refine hK.out _ _ HX6.out.cells (fun hHeld => ?_)
            clear hK Kc
            (try simp only [Act.put]); (try simp only [List.setIfInBounds_toArray]); (try simp only [List.set_cons_succ]); (try simp only [List.set_cons_zero])
            refine wpAnyH_ready (rs := [0]) (by kernel_rfl) (by simp) ?_
            refine AllReadyH.cons (o := { dst := some 50, op := Go.Op.load 22 (Go.Operand.tmp 7), type := 22, pos := "keep.go:65", after := #[], guard := none }) rfl (fun Kc hK => ?_) AllReadyH.nil
            go_simp
            refine hK.out _ _ HX6.out.cells (fun hHeld => ?_)
            clear hK Kc
            (try simp only [Act.put]); (try simp only [List.setIfInBounds_toArray]); (try simp only [List.set_cons_succ]); (try simp only [List.set_cons_zero])
            refine wpAnyH_take (i := 2) (oi := { dst := some 52, op := Go.Op.call { callee := Go.Callee.builtin Go.Builtin.len, args := #[Go.Operand.tmp 50], argTypes := #[22] }, type := 3, pos := "keep.go:65", after := #[{ on := 0, ground := Go.Ground.data }], guard := none }) (v := ?v2d1) rfl (by kernel_rfl) (by kernel_rfl) (by kernel_rfl) (fun _ _ _ h => h) (Or.inl ⟨by rfl, ?y2d1⟩) (by assumption) ?r2d1
            case y2d1 => (intro w hSw; obtain ⟨s0, s1, s2, s3, s4, s5, s6⟩ := hSw; go_simp; (try with_reducible rfl))
            (try simp only [Act.put]); (try simp only [List.setIfInBounds_toArray]); (try simp only [List.set_cons_succ]); (try simp only [List.set_cons_zero])
            refine wpAnyH_ready (rs := [4]) (by kernel_rfl) (by simp) ?_
            refine AllReadyH.cons (o := { dst := some 54, op := Go.Op.call { callee := Go.Callee.builtin Go.Builtin.append, args := #[Go.Operand.tmp 50, Go.Operand.tmp 53], argTypes := #[22, 22] }, type := 22, pos := "keep.go:65", after := #[{ on := 0, ground := Go.Ground.data }, { on := 3, ground := Go.Ground.data }, { on := 0, ground := Go.Ground.phase }, { on := 1, ground := Go.Ground.phase }, { on := 2, ground := Go.Ground.phase }, { on := 3, ground := Go.Ground.phase }], guard := none }) rfl (fun Kc hK => ?_) AllReadyH.nil
            refine step_append_oldN (P := Tryd.prog) _ rfl (.tmp 50) (.tmp 53) 22 22 rfl 38 z37 7 80 Tryd.underlying22 info37 c37 (.slice o7 L c7) L (xs.flatMap fCs) rfl HOw7.out (.slice (some ⟨V5.heap.size, 0, none⟩) 1 1) 1 (by decide) [.string ⟨#[]⟩, .bool false, .int .i64 0, .int .i64 0, .int .i64 0, .int .i64 0, .slice none 0 0] rfl HSrc7.out H63.out H80.out ?_
            intro v' w7 ha1 ha2 ha3
            obtain ⟨u7, d7, rfl⟩ := own_formN ha1
            obtain ⟨g7, rfl⟩ := own_some ha1 (by omega)
            have HM7 := hidM (HMid.out w7 g7 d7 ha1 ha3)
            obtain ⟨⟨m0, m1, m2, m3, m4, m5, m6⟩, mz⟩ := HM7.out.cells HLy.out
            have z0 := cell1 HM7.out.b
            have z1 := frz HM7.out.b 0
            clear ha1 ha2 ha3
            refine hK.out _ _ HM7.out.sx.cells (fun hHeld => ?_)
            clear hK Kc
            (try simp only [Act.put]); (try simp only [List.setIfInBounds_toArray]); (try simp only [List.set_cons_succ]); (try simp only [List.set_cons_zero])
            refine wpAnyH_take (i := 5) (oi := { dst := some 55, op := Go.Op.indexAddr 22 (Go.Operand.tmp 54) (Go.Operand.tmp 52), type := 0, pos := "keep.go:65", after := #[{ on := 4, ground := Go.Ground.data }, { on := 2, ground := Go.Ground.data }, { on := 0, ground := Go.Ground.phase }, { on := 1, ground := Go.Ground.phase }, { on := 2, ground := Go.Ground.phase }, { on := 3, ground := Go.Ground.phase }, { on := 4, ground := Go.Ground.phase }, { on := 7, ground := Go.Ground.gcOnly Go.Departure.appendInPlace }], guard := none }) (v := ?v5el1) rfl (by kernel_rfl) (by kernel_rfl) (by kernel_rfl) (fun _ _ _ h => h) (Or.inl ⟨by rfl, ?y5el1⟩) (by assumption) ?r5el1
            case y5el1 => (intro w hSw; obtain ⟨s0, s1, s2, s3, s4, s5, s6⟩ := hSw; go_simp; (try with_reducible rfl))
            (try simp only [Act.put]); (try simp only [List.setIfInBounds_toArray]); (try simp only [List.set_cons_succ]); (try simp only [List.set_cons_zero])
            refine wpAnyH_ready (rs := [6, 7]) (by kernel_rfl) (by simp) ?_
            refine AllReadyH.cons (o := { dst := none, op := Go.Op.store 38 (Go.Operand.tmp 55) (Go.Operand.tmp 51), type := 0, pos := "keep.go:65", after := #[{ on := 5, ground := Go.Ground.data }, { on := 1, ground := Go.Ground.data }, { on := 4, ground := Go.Ground.chain }, { on := 0, ground := Go.Ground.phase }, { on := 1, ground := Go.Ground.phase }, { on := 2, ground := Go.Ground.phase }, { on := 3, ground := Go.Ground.phase }, { on := 4, ground := Go.Ground.phase }, { on := 7, ground := Go.Ground.gcOnly Go.Departure.appendInPlace }], guard := none }) rfl (fun Kc hK => ?_) (AllReadyH.cons (o := { dst := none, op := Go.Op.store 22 (Go.Operand.tmp 7) (Go.Operand.tmp 54), type := 0, pos := "keep.go:65", after := #[{ on := 4, ground := Go.Ground.data }, { on := 4, ground := Go.Ground.chain }, { on := 6, ground := Go.Ground.textOnly Go.Departure.appendInPlace }, { on := 0, ground := Go.Ground.phase }, { on := 1, ground := Go.Ground.phase }, { on := 2, ground := Go.Ground.phase }, { on := 3, ground := Go.Ground.phase }, { on := 4, ground := Go.Ground.phase }, { on := 5, ground := Go.Ground.textOnly Go.Departure.appendInPlace }, { on := 6, ground := Go.Ground.textOnly Go.Departure.appendInPlace }], guard := none }) rfl (fun Kc hK => ?_) AllReadyH.nil)
            · go_simp
              obtain ⟨w8, hw8⟩ : ∃ w8, (((((((w7.setCell ⟨g7, L * 7, none⟩ (.string x.f.name)).setCell ⟨g7, L * 7 + 1, none⟩ (.bool x.f.nul)).setCell ⟨g7, L * 7 + 2, none⟩ (.int .i64 x.f.kind)).setCell ⟨g7, L * 7 + 3, none⟩ (.int .i64 x.f.width)).setCell ⟨g7, L * 7 + 4, none⟩ (.int .i64 x.f.id)).setCell ⟨g7, L * 7 + 5, none⟩ (.int .i64 x.f.index)).setCell ⟨g7, L * 7 + 6, none⟩ (.slice x.fo x.f.kids.length x.fc)) = w8 := ⟨_, rfl⟩
              rw [hw8]
              have hf : Fin13 V5 (w8.setCell ⟨Z + 4, 0, none⟩ (.slice (some ⟨g7, 0, none⟩) (L + 1) d7)) Z L o7 c7 g7 d7 (xs.flatMap fCs ++ fCs x) := by rw [← hw8]; exact HM7.out.fin HLy.out
              have hk8 : Keeps w7 w8 (fun z => z = g7) := by rw [← hw8]; exact put7_kp w7 g7 (L * 7) _ _ _ _ _ _ _
              have hb8 := (hk8.block _ (lt_of_heap HM7.out.b) (fun e => HM7.out.nz e.symm)).trans HM7.out.b
              have hx8 : Sx7 Bx x w8 := (hk8.block _ (lt_of_heap HM7.out.sx) (fun e => HM7.out.nb e.symm)).trans HM7.out.sx
              have t0 := cell1 hb8
              have t1 := frz hb8 0
              have HF := hidM hf
              have HX8 := hidM hx8
              clear hw8 hk8 hb8 hf hx8 m0 m1 m2 m3 m4 m5 m6 mz z0 z1
              refine hK.out _ _ HX8.out.cells (fun hHeld => ?_)
              clear hK Kc
              (try simp only [Act.put]); (try simp only [List.setIfInBounds_toArray]); (try simp only [List.set_cons_succ]); (try simp only [List.set_cons_zero])
              refine wpAnyH_ready (rs := [7]) (by kernel_rfl) (by simp) ?_
              refine AllReadyH.cons (o := { dst := none, op := Go.Op.store 22 (Go.Operand.tmp 7) (Go.Operand.tmp 54), type := 0, pos := "keep.go:65", after := #[{ on := 4, ground := Go.Ground.data }, { on := 4, ground := Go.Ground.chain }, { on := 6, ground := Go.Ground.textOnly Go.Departure.appendInPlace }, { on := 0, ground := Go.Ground.phase }, { on := 1, ground := Go.Ground.phase }, { on := 2, ground := Go.Ground.phase }, { on := 3, ground := Go.Ground.phase }, { on := 4, ground := Go.Ground.phase }, { on := 5, ground := Go.Ground.textOnly Go.Departure.appendInPlace }, { on := 6, ground := Go.Ground.textOnly Go.Departure.appendInPlace }], guard := none }) rfl (fun Kc hK => ?_) AllReadyH.nil
              go_simp
              refine hK.out _ _ (by have h := HX8.out; exact Sx7.cells (show Sx7 Bx x _ from (heap_setCell_other _ _ _ _ (by simpa using HM7.out.bz)).trans h)) (fun hHeld => ?_)
              clear hK Kc
              (try simp only [Act.put]); (try simp only [List.setIfInBounds_toArray]); (try simp only [List.set_cons_succ]); (try simp only [List.set_cons_zero])
              refine wpAnyH_done (by kernel_rfl) ?_ _
              exact ⟨g7, d7, HF.out, rfl⟩
            · go_simp
              obtain ⟨w8, hw8⟩ : ∃ w8, w7.setCell ⟨Z + 4, 0, none⟩ (.slice (some ⟨g7, 0, none⟩) (L + 1) d7) = w8 := ⟨_, rfl⟩
              rw [hw8]
              have hf : Fin13 V5 (((((((w8.setCell ⟨g7, L * 7, none⟩ (.string x.f.name)).setCell ⟨g7, L * 7 + 1, none⟩ (.bool x.f.nul)).setCell ⟨g7, L * 7 + 2, none⟩ (.int .i64 x.f.kind)).setCell ⟨g7, L * 7 + 3, none⟩ (.int .i64 x.f.width)).setCell ⟨g7, L * 7 + 4, none⟩ (.int .i64 x.f.id)).setCell ⟨g7, L * 7 + 5, none⟩ (.int .i64 x.f.index)).setCell ⟨g7, L * 7 + 6, none⟩ (.slice x.fo x.f.kids.length x.fc)) Z L o7 c7 g7 d7 (xs.flatMap fCs ++ fCs x) := by rw [← hw8]; exact HM7.out.fin2 HLy.out
              have hk8 : Keeps w7 w8 (fun z => z = Z + 4) := by rw [← hw8]; exact keep1 (j := 0) (Keeps.refl w7 (fun z => z = Z + 4)) _
              have hx8 : Sx7 Bx x w8 := (hk8.block _ (lt_of_heap HM7.out.sx) HM7.out.bz).trans HM7.out.sx
              have hg8 : w8.heap[g7]? = w7.heap[g7]? := hk8.block g7 (own_lt HM7.out.r g7 rfl) HM7.out.nz
              have ce : ∀ j, w8.cell? ⟨g7, j, none⟩ = w7.cell? ⟨g7, j, none⟩ := fun j => World.cell?_of_block (w := w7) hg8
              have n0 := (ce _).trans m0
              have n1 := (ce _).trans m1
              have n2 := (ce _).trans m2
              have n3 := (ce _).trans m3
              have n4 := (ce _).trans m4
              have n5 := (ce _).trans m5
              have n6 := (ce _).trans m6
              have nz : ∀ j, w8.frozen? ⟨g7, j, none⟩ = false := own_frz (row_kp HM7.out.r fun g e => by simp [Value.ownBlock] at e; rw [← e]; exact hg8)
              have HF := hidM hf
              have HX8 := hidM hx8
              clear hw8 hk8 hf hx8 hg8 ce m0 m1 m2 m3 m4 m5 m6 mz z0 z1
              refine hK.out _ _ HX8.out.cells (fun hHeld => ?_)
              clear hK Kc
              (try simp only [Act.put]); (try simp only [List.setIfInBounds_toArray]); (try simp only [List.set_cons_succ]); (try simp only [List.set_cons_zero])
              refine wpAnyH_ready (rs := [6]) (by kernel_rfl) (by simp) ?_
              refine AllReadyH.cons (o := { dst := none, op := Go.Op.store 38 (Go.Operand.tmp 55) (Go.Operand.tmp 51), type := 0, pos := "keep.go:65", after := #[{ on := 5, ground := Go.Ground.data }, { on := 1, ground := Go.Ground.data }, { on := 4, ground := Go.Ground.chain }, { on := 0, ground := Go.Ground.phase }, { on := 1, ground := Go.Ground.phase }, { on := 2, ground := Go.Ground.phase }, { on := 3, ground := Go.Ground.phase }, { on := 4, ground := Go.Ground.phase }, { on := 7, ground := Go.Ground.gcOnly Go.Departure.appendInPlace }], guard := none }) rfl (fun Kc hK => ?_) AllReadyH.nil
              go_simp
              refine hK.out _ _ (Sx7.cells (show Sx7 Bx x _ from ((put7_kp w8 g7 (L * 7) (.string x.f.name) (.bool x.f.nul) (.int .i64 x.f.kind) (.int .i64 x.f.width) (.int .i64 x.f.id) (.int .i64 x.f.index) (.slice x.fo x.f.kids.length x.fc)).block _ (lt_of_heap HX8.out) (fun e => HM7.out.nb e.symm)).trans HX8.out)) (fun hHeld => ?_)
              clear hK Kc
              (try simp only [Act.put]); (try simp only [List.setIfInBounds_toArray]); (try simp only [List.set_cons_succ]); (try simp only [List.set_cons_zero])
              refine wpAnyH_done (by kernel_rfl) ?_ _
              exact ⟨g7, d7, HF.out, rfl⟩
        · rintro _ Vf ⟨g7, d7, HF, rfl⟩
          obtain ⟨kV5, hb5, hr65, hn6, hb4, hbx5⟩ := H5.out
          obtain ⟨hr, ho6, ho7⟩ := HR.out
          have hf := HF.out
          have hL := HL.out
          have hV5s := kV5.size
          have hr7L := hr.o7
          rw [← hL] at hr7L
          have hr75 : V5.ownsRow 0 38 7 (.slice o7 L c7) L (xs.flatMap fCs) := row_kp hr7L fun g e => kV5.block g (own_lt hr7L g e) (fun e' => by
            rcases e' with e' | e'
            · exact (ho7 g e).2.2.1 e'
            · exact row_apart hr7L hr.o6 (by decide) e e')
          have hz2l := lt_of_heap hr.x6
          have hz4l := lt_of_heap hr.x7
          have kVf : Keeps V Vf (fun b => b = Z + 2 ∨ b = Z + 4 ∨ (Value.slice o6 L c6).ownBlock = some b ∨ (Value.slice o7 L c7).ownBlock = some b) :=
            (kV5.mono fun b _ h => h.elim .inl fun h => .inr (.inr (.inl h))).trans hf.k (fun b _ h => h.elim (fun h => .inr (.inl h)) fun h => .inr (.inr (.inr h)))
          have h6f : Vf.heap[Z + 2]? = some (.cells #[.slice u6 (L + 1) d6] 67 (0, 0)) := (hf.k.block _ (lt_of_heap hb5) (fun e => by
            rcases e with e | e
            · omega
            · exact (ho7 _ e).2.2.1 rfl)).trans hb5
          have ne64 : ∀ g, (Value.slice u6 (L + 1) d6).ownBlock = some g → g ≠ Z + 4 := fun g e => by
            rcases hn6 with q | q
            · exact (ho6 g (q ▸ e)).2.2.2.1
            · have := q g e; omega
          have hr6f : Vf.ownsRow 0 26 1 (.slice u6 (L + 1) d6) (L + 1) (xs.map wayV ++ [wayV x]) := row_kp hr65 fun g e => hf.k.block g (own_lt hr65 g e) (fun e' => by
            rcases e' with e' | e'
            · exact ne64 g e e'
            · exact row_apart hr65 hr75 (by decide) e e')
          have hn7 := hf.n
          have hpush : AgI W3 Z n (if 3 ≤ xs.length then (n : Int) else 0) O Vf.heap.size (xs ++ [x]) Vf := by
            refine HI.out.push HO8.out hr ho6 ho7 HAT.out (by omega) kVf h6f (by rw [← hL]; exact hr6f) hn6 hf.b (by rw [← hL]; exact hf.r) ?_
            rcases hn7 with q | q
            · exact .inl q
            · exact .inr fun g e => Nat.le_trans hV5s (q g e)
          have HLf : Hid (∀ V', Keeps V V' (fun b => b = Z + 2 ∨ b = Z + 4 ∨ b = Z + 5 ∨ (Value.slice o6 L c6).ownBlock = some b ∨ (Value.slice o7 L c7).ownBlock = some b) → Left (NewB W0 W1) O W3.heap.size V V') := fun V' k => by
            refine ⟨fun b hb => k.block b ?_ ?_, k.size⟩
            · have h1 := HZ3.out
              have h2 := HZe.out
              rcases hb with hb | hb | hb | hb
              · have := hb.2; omega
              · exact (HO8.out b hb).2
              · have := HI.out.ms; omega
              · have := HI.out.ms; omega
            · intro e
              have h1 := HZ3.out
              have h2 := HZe.out
              have h3 : ∀ {v : Value}, Okg Z O M v → v.ownBlock = some b → False := fun ho e => by
                obtain ⟨q1, q2, q3, q4, q5, q6, q7⟩ := ho b e
                rcases hb with hb | hb | hb | hb
                · have := hb.2; omega
                · exact q6 hb
                · omega
                · omega
              rcases e with e | e | e | e | e
              · rcases hb with hb | hb | hb | hb
                · have := hb.2; omega
                · have := (HO8.out b hb).1; omega
                · omega
                · omega
              · rcases hb with hb | hb | hb | hb
                · have := hb.2; omega
                · have := (HO8.out b hb).1; omega
                · omega
                · omega
              · rcases hb with hb | hb | hb | hb
                · have := hb.2; omega
                · have := (HO8.out b hb).1; omega
                · omega
                · omega
              · exact h3 ho6 e
              · exact h3 ho7 e
          have hz3 := HZ3.out
          have hms := HI.out.ms
          have hrecf : ∃ r, Vf.heap[ll]? = some (.loop r) := by
            obtain ⟨⟨r, hrr⟩, hle⟩ := HREC.out
            refine ⟨r, (kVf.block ll (by omega) ?_).trans hrr⟩
            have h3 : ∀ {v : Value}, Okg Z O M v → v.ownBlock = some ll → False := fun ho e => by
              obtain ⟨q1, q2, q3, q4, q5, q6, q7⟩ := ho ll e
              omega
            rintro (e | e | e | e)
            · omega
            · omega
            · exact h3 ho6 e
            · exact h3 ho7 e
          have w6 := cell1 h6f
          have hfun := cell1 ((hpush.kw.block Z (lt_of_heap HW3.out.2.2.2) (by omega)).trans HW3.out.2.2.2)
          have HPush := hidM hpush
          have HRecf := hidM hrecf
          have HKf := hidM kVf
          clear kV5 hb5 hr65 hn6 hb4 hbx5 hr ho6 ho7 hf hL hV5s hr7L hr75 hz2l hz4l kVf h6f ne64 hr6f hn7 hpush hrecf t4 t4a hV6 hV5 hz3 hms
          by_cases h3 : L + 1 = 3
          · have h3b : (((L : Int) + 1) == 3) = true := by simp; omega
            have H3 := hidM h3
            clear h3
            gi_wp2_with fail
            obtain ⟨T59, hT59⟩ : ∃ T : WEl → Act, T = fun x2 => { tmps := #[.agg #[.slice fo fs.length cf, .slice no ns.length cn], .slice (some ⟨g0, 0, none⟩) n vc, .pointer (some ⟨X, 0, none⟩), .pointer (some ⟨X + 1, 0, none⟩), .pointer (some ⟨X + 2, 0, none⟩), .pointer (some ⟨Z, 0, none⟩), .pointer (some ⟨Z + 2, 0, none⟩), .pointer (some ⟨Z + 4, 0, none⟩), .pointer (some ⟨Z + 5, 0, none⟩), .slice x.wo x.path.length x.wc, .pointer (some ⟨Bx, 0, none⟩), undef, undef, undef, undef, undef, undef, undef, undef, undef, .agg #[.slice fo fs.length cf, .slice no ns.length cn], .func (.func 23) #[] #[.pointer (some ⟨K, 0, none⟩)], .func (.func 23) #[] #[.pointer (some ⟨K, 0, none⟩)], .bool false, .slice (some ⟨Z + 1, 0, none⟩) 0 0, .slice (some ⟨Z + 3, 0, none⟩) 0 0, .func (.func 23) #[] #[.pointer (some ⟨K, 0, none⟩)], .slice x.wo x.path.length x.wc, .agg #[.string x.f.name, .bool x.f.nul, .int .i64 x.f.kind, .int .i64 x.f.width, .int .i64 x.f.id, .int .i64 x.f.index, .slice x.fo x.f.kids.length x.fc], .slice o6 L c6, .int .i64 (L : Int), .slice (some ⟨g0, 0, none⟩) n vc, .int .i64 (n : Int), .bool false, .bool false, .slice x.wo x.path.length x.wc, .int .i64 (x.path.length : Int), .slice (some ⟨g0, 0, none⟩) n vc, .slice o6 L c6, .int .i64 (L : Int), .pointer (some ⟨g0, L * 10, none⟩), .pointer (some ⟨g0, L * 10, none⟩), .slice (some ⟨wb, 0, none⟩) P wc, .int .i64 (P : Int), .bool false, .bool false, .slice o6 L c6, .slice x.wo x.path.length x.wc, .slice (some ⟨V.heap.size, 0, none⟩) 1 1, .slice u6 (L + 1) d6, .slice o7 L c7, .agg #[.string x.f.name, .bool x.f.nul, .int .i64 x.f.kind, .int .i64 x.f.width, .int .i64 x.f.id, .int .i64 x.f.index, .slice x.fo x.f.kids.length x.fc], .int .i64 (L : Int), .slice (some ⟨V5.heap.size, 0, none⟩) 1 1, .slice (some ⟨g7, 0, none⟩) (L + 1) d7, .pointer (some ⟨g7, L * 7, none⟩), .slice u6 (L + 1) d6, .int .i64 ((L : Int) + 1), .bool true, .func (.func 23) #[] #[.pointer (some ⟨K, 0, none⟩)], .slice x2.wo x2.path.length x2.wc, .agg #[.string x2.f.name, .bool x2.f.nul, .int .i64 x2.f.kind, .int .i64 x2.f.width, .int .i64 x2.f.id, .int .i64 x2.f.index, .slice x2.fo x2.f.kids.length x2.fc], undef, undef, undef, undef, undef, undef, undef, undef, undef, undef, undef, undef, undef, undef, undef, undef, undef, undef, undef, undef, undef, undef, undef, undef, undef, undef, undef, undef, undef, undef, undef, undef, undef, undef, undef, undef, undef, undef, undef, undef, undef, undef, undef, undef, undef, undef, undef, undef, undef, undef, undef, undef, undef, undef, undef, undef, undef, undef, undef, undef, undef, undef, undef, undef, undef, undef, undef, undef, undef, undef, undef, undef, undef, undef, undef, undef, undef, undef, undef, undef, undef, undef, undef, undef, undef, undef, undef, undef, undef, undef, undef, undef, undef, undef, undef, undef, undef, undef, undef, undef, undef, undef, undef, undef, undef, undef, undef, undef, undef, undef, undef, undef, undef, undef, undef, undef, undef, undef, undef, undef, undef, undef, undef, undef, undef, undef, undef, undef, undef, undef, undef, undef, undef, undef, undef, undef, undef, undef, undef, undef, undef, undef, undef, undef], defers := [] } := ⟨_, rfl⟩
            have HT59 := hidM hT59
            clear hT59
            refine rangeN HRecf.out (by decide) (gf := 23) (lb := #[.pointer (some ⟨K, 0, none⟩)]) rfl (enters_of Tryd.func23 (by kernel_rfl) rfl) (HSeq.out (8 - 1) Vf (by decide) HPush.out.kw) (fun _ => rfl) (fun b hb => by have := hb.2; have := HZe.out; have := HPush.out.ms; omega)
              (fun O M x A B h hA hO k => h.kept k (fun b hb => .inl (by omega)))
              (fun _ pre V2 => Keeps Vf V2 (fun b => b = Z + 5) ∧ V2.heap[Z + 5]? = some (.cells #[.int .i64 (pre.length : Int)] 3 (0, 0)) ∧ pre.length ≤ n)
              (fun O O' pre A B h hA hO k hO' => ⟨h.1.trans k (fun j hj hb => by have := (hO j hb).1; omega), (k.block _ (lt_of_heap h.2.1) (fun hb => by have := (hO _ hb).1; have := HPush.out.ms; omega)).trans h.2.1, h.2.2⟩)
              (fun O pre A B h k => ⟨h.1.trans k (fun j hj hb => by omega), (k.block _ (lt_of_heap h.2.1) (fun hb => by have := HPush.out.ms; omega)).trans h.2.1, h.2.2⟩)
              (NxW N) (fun pre hp hn => hn (by have h1 := HNe.out; rw [h1]; exact hp))
              ?h02
              (fun x2 a' V => a' = T59 x2) (fun _ _ _ _ h _ => h)
              ?assign2 ?body2 ?done2
            case h02 =>
              intro V2 k hs
              have hlt := lt_of_heap HPush.out.bx
              refine ⟨k.mono fun _ _ f => f.elim, (k.block _ hlt id).trans ?_, by simp⟩
              have hb := HPush.out.bx
              rw [if_neg (by have := HL.out; have := H3.out; omega)] at hb
              exact hb
            case assign2 =>
              intro l x2 V2 K' hz hK
              unfold encW
              gi_wp2
              refine hK _ _ (Keeps.refl _ _) ?_
              rw [HT59.out]
            case body2 =>
              rintro l2 O2 pre2 x2 a' V2 hi2 ⟨M2, hat2⟩ rfl hO2 hz2
              have hT := HT59.out
              subst hT
              obtain ⟨hk2, hb2, hp2⟩ := hi2
              have hgt : Keeps W3 V2 (fun b => Z < b) := HPush.out.kw.trans hk2 (fun j hj e => by omega)
              have hxw2 := (hgt.block (X + 1) (lt_of_heap HW3.out.2.1) (by have := HXZ.out; omega)).trans HW3.out.2.1
              have hxr2 := (hgt.block (X + 2) (lt_of_heap HW3.out.2.2.1) (by have := HXZ.out; omega)).trans HW3.out.2.2.1
              have u5 := cell1 hb2
              have uw := cell1 hxw2
              have ur := cell1 hxr2
              have e5 := frz hb2 0
              have er := frz hxr2 0
              obtain ⟨q, hq⟩ : ∃ q, q = pre2.length := ⟨_, rfl⟩
              rw [← hq] at u5 hp2
              have HQ2 := hidM hq
              have hqb : (q : Int) + 1 ≤ 1000000 := by omega
              have HB2 := hidM hb2
              have HK2 := hidM hk2
              have HXR2 := hidM hxr2
              have hne25 : X + 2 ≠ Z + 5 := by have := HXZ.out; omega
              have HLeft2 : Hid (∀ V3, Keeps V2 V3 (fun b => b = Z + 5 ∨ b = X + 2) → KpOf (fun b => NewB W0 W1 b ∨ O2 b ∨ b = Vf.heap.size) V2 V3 ∧ V2.heap.size ≤ V3.heap.size) := fun V3 k => by
                have h1 := HZe.out
                have h2 := HPush.out.ms
                have h3 := HXZ.out
                have h4 := HW0.out
                refine ⟨fun b hb => k.block b ?_ ?_, k.size⟩
                · rcases hb with hb | hb | hb
                  · have := hb.2; have := hk2.size; omega
                  · exact (hO2 b hb).2
                  · omega
                · rcases hb with hb | hb | hb
                  · have := hb.2; have := hb.1; omega
                  · have := (hO2 b hb).1; omega
                  · omega
              obtain ⟨V3, hV3⟩ : ∃ V3, V2.setCell ⟨Z + 5, 0, none⟩ (.int .i64 ((q : Int) + 1)) = V3 := ⟨_, rfl⟩
              have k3 : Keeps V2 V3 (fun b => b = Z + 5) := by rw [← hV3]; exact keep1 (j := 0) (Keeps.refl V2 (fun b => b = Z + 5)) _
              have hb3 : V3.heap[Z + 5]? = some (.cells #[.int .i64 ((q : Int) + 1)] 3 (0, 0)) := by rw [← hV3, setc (j := 0) hb2]; simp
              have g5 := cell1 hb3
              have gw : V3.cell? ⟨X + 1, 0, none⟩ = some (.slice (some ⟨g0, 0, none⟩) n vc) := k3.cell' uw (by have := HXZ.out; show X + 1 ≠ Z + 5; omega)
              have hxr3 := (k3.block _ (lt_of_heap hxr2) hne25).trans hxr2
              have gr := cell1 hxr3
              have gf := frz hxr3 0
              have HK3 := hidM (And.intro k3 hb3)
              clear hk2 hb2 hgt hxw2 hxr2 hq k3 hb3 hxr3 hat2 hO2 hz2
              by_cases hqn : q < n
              · have hc : ¬ ((n : Int) < (q : Int) + 1) := by omega
                gi_wp2
                refine ⟨HLeft2.out _ (HK3.out.1.mono fun _ _ h => .inl h), HK2.out.trans HK3.out.1 (fun _ _ h => h), ?_, ?_⟩
                · have h1 := HK3.out.2
                  have h2 := HQ2.out
                  simp only [List.length_append, List.length_cons, List.length_nil]
                  rw [h1, h2]
                  simp
                · have h2 := HQ2.out
                  simp only [List.length_append, List.length_cons, List.length_nil]
                  omega
              · have hc : (n : Int) < (q : Int) + 1 := by omega
                have HNx2 : Hid (NxW N (pre2 ++ [x2])) := NxW.len (by have := HQ2.out; have := HNn.out; simp; omega)
                gi_wp2
                refine ⟨HLeft2.out _ ((HK3.out.1.mono fun _ _ h => .inl h).trans (keep1 (j := 0) (Keeps.refl V3 (fun b => b = X + 2)) (.bool false)) (fun _ _ h => .inr h)), HNx2.out⟩
            case done2 =>
              rintro O2 xs2 V2 hx2 ⟨hk2, hb2, hp2⟩ hz2
              have hlen2 : xs2.length = n := by
                have h1 := congrArg List.length hx2
                have h2 := HNe.out
                have h3 := HNn.out
                simp only [List.length_map] at h1
                rw [h3, h2]
                exact h1
              rw [hlen2] at hb2
              have HD2 := hidM (And.intro hk2 hb2)
              clear hx2 hk2 hb2 hp2 hz2 hlen2
              gi_wp2_with fail
              refine ⟨HLf.out V2 ((HKf.out.mono fun b _ h => by rcases h with h | h | h | h; exact .inl h; exact .inr (.inl h); exact .inr (.inr (.inr (.inl h))); exact .inr (.inr (.inr (.inr h)))).trans HD2.out.1 (fun _ _ h => .inr (.inr (.inl h)))), ?_⟩
              have h5 : ∀ c, c = (n : Int) → AgI W3 Z n c O V2.heap.size (xs ++ [x]) V2 := fun c e => e ▸ (HPush.out.box HD2.out.1 HD2.out.2).more HD2.out.1.size (Nat.le_refl _)
              refine h5 _ ?_
              have h3 := H3.out
              have hL := HL.out
              split <;> first | rfl | (exfalso; simp only [List.length_append, List.length_cons, List.length_nil] at *; omega)
          · have h3b : (((L : Int) + 1) == 3) = false := by simp; omega
            have H3 := hidM h3
            clear h3
            gi_wp2_with fail
            refine ⟨HLf.out Vf (HKf.out.mono fun b _ h => by rcases h with h | h | h | h; exact .inl h; exact .inr (.inl h); exact .inr (.inr (.inr (.inl h))); exact .inr (.inr (.inr (.inr h)))), ?_⟩
            have h5 : ∀ c, c = (if 3 ≤ xs.length then (n : Int) else 0) → AgI W3 Z n c O Vf.heap.size (xs ++ [x]) Vf := fun c e => e ▸ HPush.out
            refine h5 _ ?_
            have h3 := H3.out
            have hL := HL.out
            (split <;> split) <;> first | rfl | (exfalso; simp only [List.length_append, List.length_cons, List.length_nil] at *; omega)
      · have hBb : ((x.path.length : Int) == (P : Int)) = false := by simp; omega
        have HNx : Hid (NxW N (xs ++ [x])) := by
          have h1 := HL.out
          have h2 := HLN.out
          have h3 := HP.out
          subst h1
          exact NxW.path h2 (by omega)
        clear hB q7
        gi_wp2
        exact ⟨HLeft.out _, HNx.out⟩
  case stop =>
    rintro O c pre V hp hx hzV hd
    exact absurd (by have h1 := HNe.out; rw [h1]; exact hp) hx
  case done =>
    rintro O M xs V hx hi hzV hd
    have hz3 := HZ3.out
    rw [hz3] at hd
    have hlen : xs.length = n := by
      have h1 := congrArg List.length hx
      have h2 := HNe.out
      have h3 := HNn.out
      simp only [List.length_map] at h1
      rw [h3, h2]
      exact h1
    have hxm : ∀ i (h : i < xs.length), ∃ hN : i < N.length, xs[i].path = N[i].path ∧ xs[i].f = N[i].fld := fun i h => by
      have h2 := HNe.out
      subst h2
      exact hx.at_ List.prefix_rfl h
    obtain ⟨v6, v7, hr, ho6, ho7⟩ := hi.r
    obtain ⟨o6, c6, rfl⟩ := own_formN hr.o6
    obtain ⟨o7, c7, rfl⟩ := own_formN hr.o7
    have hxw := (hi.kw.block (X + 1) (lt_of_heap HW3.out.2.1) (by have := HXZ.out; omega)).trans HW3.out.2.1
    have hxr := (hi.kw.block (X + 2) (lt_of_heap HW3.out.2.2.1) (by have := HXZ.out; omega)).trans HW3.out.2.2.1
    have q6 := cell1 hr.x6
    have q7 := cell1 hr.x7
    have q8 := cell1 hi.bx
    have qw := cell1 hxw
    rw [hlen] at q6 q7 q8
    have HI := hidM hi
    have HR := hidM hr
    have HLen := hidM hlen
    have HXM := hidM hxm
    have HD := hidM hd
    have HXS := hidM (And.intro hxw hxr)
    have hnn : ((n : Int) == (n : Int)) = true := by simp
    clear hx hi hzV hz3 hlen hxm hr ho6 ho7 hxw hxr hd
    have hnB : (n : Int) ≤ 256 := by omega
    rename_i K1 hK1
    show K1 _ V
    refine hK1 _ _ ?_
    clear hK1 K1
    refine wp_seq ?_
    refine wp_mid0 (MidA V fun z76 z77 z78 z79 z80 z81 => { tmps := #[.agg #[.slice fo fs.length cf, .slice no ns.length cn], .slice vo n vc, .pointer (some ⟨X, 0, none⟩), .pointer (some ⟨X + 1, 0, none⟩), .pointer (some ⟨X + 2, 0, none⟩), .pointer (some ⟨Z, 0, none⟩), .pointer (some ⟨Z + 2, 0, none⟩), .pointer (some ⟨Z + 4, 0, none⟩), .pointer (some ⟨Z + 5, 0, none⟩), undef, undef, undef, undef, undef, undef, undef, undef, undef, undef, undef, .agg #[.slice fo fs.length cf, .slice no ns.length cn], .func (.func 23) #[] #[.pointer (some ⟨K, 0, none⟩)], .func (.func 23) #[] #[.pointer (some ⟨K, 0, none⟩)], .bool false, .slice (some ⟨Z + 1, 0, none⟩) 0 0, .slice (some ⟨Z + 3, 0, none⟩) 0 0, .func (.func 23) #[] #[.pointer (some ⟨K, 0, none⟩)], undef, undef, undef, undef, undef, undef, undef, undef, undef, undef, undef, undef, undef, undef, undef, undef, undef, undef, undef, undef, undef, undef, undef, undef, undef, undef, undef, undef, undef, undef, undef, undef, undef, undef, undef, undef, undef, undef, undef, undef, undef, .slice o6 n c6, .int .i64 (n : Int), .slice vo n vc, .int .i64 (n : Int), .bool false, .bool false, .slice vo n vc, .int .i64 (n : Int), z76, z77, z78, z79, z80, z81, .bool false, .bool false, undef, undef, undef, undef, undef, undef, undef, undef, undef, undef, undef, undef, undef, undef, undef, undef, undef, undef, undef, undef, undef, undef, undef, undef, undef, undef, undef, undef, undef, undef, undef, undef, undef, undef, undef, undef, undef, undef, undef, undef, undef, undef, undef, undef, undef, undef, undef, undef, undef, undef, undef, undef, undef, undef, undef, undef, undef, undef, undef, undef, undef, undef, undef, undef, undef, undef, undef, undef, undef, undef, undef, undef, undef, undef, undef, undef, undef, undef, undef, undef, undef, undef, undef, undef, undef, undef, undef, undef, undef, undef, undef, undef, undef, undef, undef, undef, undef, undef, undef, undef, undef, undef, undef, undef, undef, undef, undef, undef, undef, undef, undef, undef, undef, undef, undef, undef, undef, undef, undef, undef, undef, undef], defers := [{ target := Target.collected W3.heap.size, args := #[] }] }) ?_ ?_
    · by_cases hn3 : 3 ≤ n
      · rw [if_pos hn3] at q8
        have hn3I : (3 : Int) ≤ (n : Int) := by omega
        clear hn3
        go_wp2_with fail
        exact ⟨rfl, _, _, _, _, _, _, rfl⟩
      · rw [if_neg hn3] at q8
        have hn3I : (n : Int) < 3 := by omega
        clear hn3
        go_wp2_with fail
        exact ⟨rfl, _, _, _, _, _, _, rfl⟩
    rintro _ _ ⟨rfl, z76, z77, z78, z79, z80, z81, rfl⟩
    have HA0 : Hid (AgL V V Z (.slice o6 n c6) (.slice o7 n c7) xs (PA xs 0)) := by
      have h1 := HR.out
      have h2 := HLen.out
      rw [h2] at h1
      exact ⟨h1, HI.out.els.mono (fun i ws ks hi h hi2 => ⟨fun e => by omega, fun _ => h hi2⟩), Keeps.refl _ _⟩
    clear q7 q8
    have HPn : Hid (∀ i (h : i < xs.length), xs[i].path ≠ [] ∧ ∀ p, p ∈ xs[i].path → p < 1000000000000) := fun i h => by
      refine ⟨(HI.out.no i h).2.2, fun p hp => ?_⟩
      obtain ⟨hN, h1, _⟩ := HXM.out i h
      rw [h1] at hp
      have h2 := HNe.out
      subst h2
      rcases nodes_small D fs fo [] false HA.out.row _ (List.getElem_mem hN) p hp with h3 | h3
      · cases h3
      · exact h3
    go_wp2_with fail
    go_loopw [86] (fun p wr => ∃ k : Nat, k ≤ n ∧ p = .int .i64 (k : Int) ∧ Hid (AgL V wr Z (.slice o6 n c6) (.slice o7 n c7) xs (PA xs k))) (fun p _ => n - (intOf p).toNat)
    case atStart => exact ⟨0, by omega, rfl, HA0.out⟩
    case round =>
      obtain ⟨k, hk, rfl, HK⟩ := hrel
      by_cases hlt : k < n
      · have hkl : k < xs.length := by have := HLen.out; omega
        obtain ⟨g6, e6, hv6, hc6, hw6⟩ := HK.out.rw.way_at hkl
        obtain ⟨ws, ks, he, hp⟩ := HK.out.els.el k hkl
        obtain ⟨gw, hgw⟩ := own_some (show wr.ownsRow 0 3 1 (.slice xs[k].wo xs[k].path.length xs[k].wc) xs[k].path.length ws from he.way) (List.length_pos_iff.2 (HPn.out k hkl).1)
        simp only [Value.slice.injEq] at hv6
        obtain ⟨rfl, -, rfl⟩ := hv6
        have hwv : wayV xs[k] = .slice (some ⟨gw, 0, none⟩) xs[k].path.length xs[k].wc := by unfold wayV; rw [hgw]
        obtain ⟨p, hpl⟩ : ∃ p, p = xs[k].path.length := ⟨_, rfl⟩
        obtain ⟨wc, hwc⟩ : ∃ wc, wc = xs[k].wc := ⟨_, rfl⟩
        rw [← hpl, ← hwc] at hwv
        rw [hwv] at hw6
        have hpc : p ≤ wc := by
          have h := he.way
          rw [hwv] at h
          rcases h.2 with ⟨q, _⟩ | ⟨g, c, cur, q, _, _, h3, _⟩
          · cases q
          · cases q; rw [hpl]; exact h3
        have c6b := cell1 HK.out.rw.x6
        have HWv := hidM hwv
        have HPl := hidM hpl
        have hpm : p ≤ 1000000000000 := by rw [hpl]; exact HI.out.dp k hkl
        have hltI : (k : Int) < (n : Int) := by omega
        have HB0 : Hid (AgL V wr Z (.slice (some ⟨g6, 0, none⟩) n c6) (.slice o7 n c7) xs (PB xs k 0)) := HK.out.mono fun i ws ks _ h => h.pb
        clear he hp hgw hwv hwc hpl
        obtain ⟨W1', rfl⟩ : ∃ W1', W1' = wr := ⟨_, rfl⟩
        go_wp2_with fail
        go_loopw [94] (fun q wr => ∃ t : Nat, t ≤ p ∧ q = .int .i64 (t : Int) ∧ Hid (AgL V wr Z (.slice (some ⟨g6, 0, none⟩) n c6) (.slice o7 n c7) xs (PB xs k t))) (fun q _ => p - (intOf q).toNat)
        case atStart => exact ⟨0, by omega, rfl, HB0.out⟩
        case round =>
          obtain ⟨t, ht, rfl, HT⟩ := hrel
          by_cases htp : t < p
          · have hv6' := HT.out.rw.way_at hkl
            obtain ⟨g6', e6, hv6, _, hw⟩ := hv6'
            simp only [Value.slice.injEq, Option.some.injEq, Addr.mk.injEq, and_true] at hv6
            obtain ⟨rfl, -, rfl⟩ := hv6
            obtain ⟨ws, ks, he, hp⟩ := HT.out.els.el k hkl
            obtain rfl := (hp hkl).2.1 rfl
            have hpl := HPl.out
            have htl : t < xs[k].path.length := by omega
            obtain ⟨pv, hpv⟩ : ∃ pv, pv = xs[k].path[t] := ⟨_, rfl⟩
            have hpvb : pv < 1000000000000 := (HPn.out k hkl).2 pv (by rw [hpv]; exact List.getElem_mem htl)
            have hway := he.way
            rw [HWv.out] at hw hway
            have ct : wr.cell? ⟨gw, t, none⟩ = some (.int .i64 (pv : Int)) := by
              have h := hway.cells (g := gw) rfl t _ (wst_at (c := c1000 k) (t := t) htl)
              rw [if_neg (by omega), ← hpv] at h
              simpa [Addr.add_lit] using h
            have cf := own_frz (show wr.ownsRow 0 3 1 (.slice (some ⟨gw, 0, none⟩) xs[k].path.length wc) xs[k].path.length _ by rw [← hpl] at hway ⊢; exact hway) t
            have c6c := cell1 HT.out.rw.x6
            have HNx : Hid (AgL V (wr.setCell ⟨gw, t, none⟩ (.int .i64 ((pv : Int) + 1000 * ((k : Int) + 1)))) Z (.slice (some ⟨g6, 0, none⟩) n c6) (.slice o7 n c7) xs (PB xs k (t + 1))) := by
              obtain ⟨h1, h2⟩ := he.write (t := t) (by rw [HWv.out, hpl]) (.int .i64 ((pv : Int) + 1000 * ((k : Int) + 1)))
              refine HT.out.step hkl h2 h1 (fun hi => ⟨fun e => by omega, fun _ => ?_, fun e => by omega⟩) (fun j ws ks hj h => h.other hj)
              have h3 := wst_set (c := c1000 k) htl
              rw [← hpv] at h3
              exact h3
            have htI : (t : Int) < (p : Int) := by omega
            have hpvI : (pv : Int) < 1000000000000 := by omega
            clear he hp hway hpv hpl
            go_wp2_with fail
            exact ⟨⟨t + 1, by omega, by simp, HNx.out⟩, by simp [intOf]; omega⟩
          · have htp' : t = p := by omega
            subst htp'
            clear ht htp c6b hw6
            obtain ⟨W2', rfl⟩ : ∃ W2', W2' = wr := ⟨_, rfl⟩
            obtain ⟨g7, e7, hv7, hc7, hf7⟩ := HT.out.rw.fld_at hkl
            simp only [Value.slice.injEq] at hv7
            obtain ⟨rfl, -, rfl⟩ := hv7
            have c7b := cell1 HT.out.rw.x7
            obtain ⟨fo2, hfo2⟩ : ∃ fo2, fo2 = xs[k].fo := ⟨_, rfl⟩
            obtain ⟨kl, hkl2⟩ : ∃ kl, kl = xs[k].f.kids.length := ⟨_, rfl⟩
            obtain ⟨fc2, hfc2⟩ : ∃ fc2, fc2 = xs[k].fc := ⟨_, rfl⟩
            rw [← hfo2, ← hkl2, ← hfc2] at hf7
            have HFo := hidM (And.intro hfo2 (And.intro hkl2 hfc2))
            obtain ⟨ws, ks, he, hp⟩ := HT.out.els.el k hkl
            have hpl := HPl.out
            obtain ⟨m, hm⟩ : ∃ m, m = k % 26 := ⟨_, rfl⟩
            have hm26 : m < 26 := by omega
            have h1 : (k : Int).tmod 26 = (m : Int) := by rw [Int.tmod_eq_emod_of_nonneg (by omega)]; omega
            have h2 : IntKind.i64.wrap (97 + (m : Int)) = 97 + (m : Int) := by rw [IntKind.wrap_i64]; omega
            have h3 : IntKind.u8.wrap (97 + (m : Int)) = 97 + (m : Int) := by rw [IntKind.wrap_u8]; omega
            obtain ⟨bs, hbs⟩ : ∃ bs : ByteArray, bs = ⟨#[UInt8.ofNat (97 + m)]⟩ := ⟨_, rfl⟩
            have hbz : bs.size = 1 := by rw [hbs]; rfl
            have m1 := fun w => run_string_add_sum (P := Tryd.prog) w ⟨#[109]⟩ bs (by rw [hbz]; show 1 + 1 ≤ _; omega)
            have HNm : Hid (nmOf k = ⟨#[109]⟩ ++ bs) := by show _ = _; rw [hbs, hm]; rfl
            have HWs : Hid (ws = wst (c1000 k) xs[k].path.length xs[k].path) := by have h := (hp hkl).2.1 rfl; rw [← hpl]; exact h
            have hcv := letter_string W2' m hm26
            obtain ⟨W4, hW4⟩ : ∃ W4, W2'.alloc (.cells #[.int .u8 (97 + (m : Int))] 5) = W4 := ⟨_, rfl⟩
            rw [hW4] at hcv
            have hcvd : (convert 68 9 (.slice (some ⟨W2'.heap.size, 0, none⟩) 1 1)).run Tryd.prog W4.drew = .ok (.string bs) W4.drew := by
              rw [← hW4]
              rw [hbs]
              exact letter_string W2'.drew m hm26
            have hg4 : Gr W2' W4.drew := by rw [← hW4]; exact (gr_alloc W2' _).drew
            have HE4 := hidM (he.kept (fun b h1 h2 => hg4.block b (by have := he.bn; omega) id) hg4.size)
            have HT4 := hidM (HT.out.gr hg4)
            have HSp : Hid (Calls Tryd.prog 8 #[.slice fo2 kl fc2, .string (⟨#[109]⟩ ++ bs)] W4.drew (SpQ W4.drew xs[k].d xs[k].lo xs[k].mid xs[k].fo xs[k].fc (⟨#[109]⟩ ++ bs) ks.length)) := by
              have h := spoil_any (⟨#[109]⟩ ++ bs) xs[k].d W4.drew xs[k].lo xs[k].mid xs[k].fo xs[k].fc ks HE4.out.row (by have := HE4.out.bn; omega)
              have hl := HE4.out.kl
              rw [hl] at h ⊢
              rw [hfo2, hkl2, hfc2]
              exact h
            have HIN4 : Hid (W4.drew.cell? ⟨Z + 4, 0, none⟩ = some (.slice (some ⟨g7, 0, none⟩) n c7) ∧ W4.drew.cell? ⟨g7, k * 7 + 6, none⟩ = some (.slice fo2 kl fc2)) := ⟨hg4.cell' c7b id, hg4.cell' hf7 id⟩
            clear hbs hbz he hp hpl hm hcv hg4 hfo2 hkl2 hfc2
            go_wp2_with fail
            refine wp_calm2 ?_
            have HIN : Hid (W2'.drew.cell? ⟨Z + 4, 0, none⟩ = some (.slice (some ⟨g7, 0, none⟩) n c7) ∧ W2'.drew.cell? ⟨g7, k * 7 + 6, none⟩ = some (.slice fo2 kl fc2)) := ⟨c7b, hf7⟩
            refine wp_region_held_drew (S := fun w' => w'.cell? ⟨Z + 4, 0, none⟩ = some (.slice (some ⟨g7, 0, none⟩) n c7) ∧ w'.cell? ⟨g7, k * 7 + 6, none⟩ = some (.slice fo2 kl fc2)) (by kernel_rfl) (HIN.out) (fun hHeld => ?_)
            refine wpAnyH_take (i := 0) (oi := { dst := some 110, op := Go.Op.load 22 (Go.Operand.tmp 7), type := 22, pos := "keep.go:82", after := #[], guard := none }) (v := ?v0g1) rfl (by kernel_rfl) (by kernel_rfl) (by kernel_rfl) (fun _ _ _ h => h) (Or.inl ⟨by rfl, ?y0g1⟩) (by assumption) ?r0g1
            case y0g1 => (intro w hSw; obtain ⟨s0, s1⟩ := hSw; go_simp; (try with_reducible rfl))
            (try simp only [Act.put]); (try simp only [List.setIfInBounds_toArray]); (try simp only [List.set_cons_succ]); (try simp only [List.set_cons_zero])
            refine wpAnyH_take (i := 1) (oi := { dst := some 111, op := Go.Op.move (Go.Operand.tmp 11), type := 3, pos := "keep.go:82", after := #[], guard := none }) (v := ?v1g2) rfl (by kernel_rfl) (by kernel_rfl) (by kernel_rfl) (fun _ _ _ h => h) (Or.inl ⟨by rfl, ?y1g2⟩) (by assumption) ?r1g2
            case y1g2 => (intro w hSw; obtain ⟨s0, s1⟩ := hSw; go_simp; (try with_reducible rfl))
            (try simp only [Act.put]); (try simp only [List.setIfInBounds_toArray]); (try simp only [List.set_cons_succ]); (try simp only [List.set_cons_zero])
            refine wpAnyH_take (i := 2) (oi := { dst := some 112, op := Go.Op.indexAddr 22 (Go.Operand.tmp 110) (Go.Operand.tmp 111), type := 0, pos := "keep.go:82", after := #[{ on := 0, ground := Go.Ground.data }, { on := 1, ground := Go.Ground.data }], guard := none }) (v := ?v2g3) rfl (by kernel_rfl) (by kernel_rfl) (by kernel_rfl) (fun _ _ _ h => h) (Or.inl ⟨by rfl, ?y2g3⟩) (by assumption) ?r2g3
            case y2g3 => (intro w hSw; obtain ⟨s0, s1⟩ := hSw; go_simp; (try with_reducible rfl))
            (try simp only [Act.put]); (try simp only [List.setIfInBounds_toArray]); (try simp only [List.set_cons_succ]); (try simp only [List.set_cons_zero])
            refine wpAnyH_take (i := 3) (oi := { dst := some 113, op := Go.Op.fieldAddr 38 (Go.Operand.tmp 112) 2, type := 0, pos := "keep.go:82", after := #[{ on := 2, ground := Go.Ground.data }], guard := none }) (v := ?v3g4) rfl (by kernel_rfl) (by kernel_rfl) (by kernel_rfl) (fun _ _ _ h => h) (Or.inl ⟨by rfl, ?y3g4⟩) (by assumption) ?r3g4
            case y3g4 => (intro w hSw; obtain ⟨s0, s1⟩ := hSw; go_simp; (try with_reducible rfl))
            (try simp only [Act.put]); (try simp only [List.setIfInBounds_toArray]); (try simp only [List.set_cons_succ]); (try simp only [List.set_cons_zero])
            refine wpAnyH_take (i := 4) (oi := { dst := some 114, op := Go.Op.fieldAddr 36 (Go.Operand.tmp 113) 4, type := 0, pos := "keep.go:82", after := #[{ on := 3, ground := Go.Ground.data }], guard := none }) (v := ?v4g5) rfl (by kernel_rfl) (by kernel_rfl) (by kernel_rfl) (fun _ _ _ h => h) (Or.inl ⟨by rfl, ?y4g5⟩) (by assumption) ?r4g5
            case y4g5 => (intro w hSw; obtain ⟨s0, s1⟩ := hSw; go_simp; (try with_reducible rfl))
            (try simp only [Act.put]); (try simp only [List.setIfInBounds_toArray]); (try simp only [List.set_cons_succ]); (try simp only [List.set_cons_zero])
            refine wpAnyH_take (i := 5) (oi := { dst := some 115, op := Go.Op.load 22 (Go.Operand.tmp 114), type := 22, pos := "keep.go:82", after := #[{ on := 4, ground := Go.Ground.data }], guard := none }) (v := ?v5g6) rfl (by kernel_rfl) (by kernel_rfl) (by kernel_rfl) (fun _ _ _ h => h) (Or.inl ⟨by rfl, ?y5g6⟩) (by assumption) ?r5g6
            case y5g6 => (intro w hSw; obtain ⟨s0, s1⟩ := hSw; go_simp; (try with_reducible rfl))
            (try simp only [Act.put]); (try simp only [List.setIfInBounds_toArray]); (try simp only [List.set_cons_succ]); (try simp only [List.set_cons_zero])
            refine wpAnyH_take (i := 6) (oi := { dst := some 116, op := Go.Op.move (Go.Operand.tmp 11), type := 3, pos := "keep.go:82", after := #[], guard := none }) (v := ?v6g7) rfl (by kernel_rfl) (by kernel_rfl) (by kernel_rfl) (fun _ _ _ h => h) (Or.inl ⟨by rfl, ?y6g7⟩) (by assumption) ?r6g7
            case y6g7 => (intro w hSw; obtain ⟨s0, s1⟩ := hSw; go_simp; (try with_reducible rfl))
            (try simp only [Act.put]); (try simp only [List.setIfInBounds_toArray]); (try simp only [List.set_cons_succ]); (try simp only [List.set_cons_zero])
            refine wpAnyH_take (i := 7) (oi := { dst := some 117, op := Go.Op.binOp Go.BinOp.rem 3 (Go.Operand.tmp 116) (Go.Operand.const (Go.Value.int Go.IntKind.i64 26)) 3, type := 3, pos := "keep.go:82", after := #[{ on := 6, ground := Go.Ground.data }], guard := none }) (v := ?v7g8) rfl (by kernel_rfl) (by kernel_rfl) (by kernel_rfl) (fun _ _ _ h => h) (Or.inl ⟨by rfl, ?y7g8⟩) (by assumption) ?r7g8
            case y7g8 => (intro w hSw; obtain ⟨s0, s1⟩ := hSw; go_simp; (try with_reducible rfl))
            (try simp only [Act.put]); (try simp only [List.setIfInBounds_toArray]); (try simp only [List.set_cons_succ]); (try simp only [List.set_cons_zero])
            refine wpAnyH_take (i := 8) (oi := { dst := some 118, op := Go.Op.binOp Go.BinOp.add 3 (Go.Operand.const (Go.Value.int Go.IntKind.i64 97)) (Go.Operand.tmp 117) 3, type := 3, pos := "keep.go:82", after := #[{ on := 7, ground := Go.Ground.data }], guard := none }) (v := ?v8g9) rfl (by kernel_rfl) (by kernel_rfl) (by kernel_rfl) (fun _ _ _ h => h) (Or.inl ⟨by rfl, ?y8g9⟩) (by assumption) ?r8g9
            case y8g9 => (intro w hSw; obtain ⟨s0, s1⟩ := hSw; go_simp; (try with_reducible rfl))
            (try simp only [Act.put]); (try simp only [List.setIfInBounds_toArray]); (try simp only [List.set_cons_succ]); (try simp only [List.set_cons_zero])
            refine wpAnyH_take (i := 9) (oi := { dst := some 119, op := Go.Op.convert 3 5 (Go.Operand.tmp 118), type := 5, pos := "keep.go:82", after := #[{ on := 8, ground := Go.Ground.data }], guard := none }) (v := ?v9g10) rfl (by kernel_rfl) (by kernel_rfl) (by kernel_rfl) (fun _ _ _ h => h) (Or.inl ⟨by rfl, ?y9g10⟩) (by assumption) ?r9g10
            case y9g10 => (intro w hSw; obtain ⟨s0, s1⟩ := hSw; go_simp; (try with_reducible rfl))
            (try simp only [Act.put]); (try simp only [List.setIfInBounds_toArray]); (try simp only [List.set_cons_succ]); (try simp only [List.set_cons_zero])
            refine wpAnyH_ready (rs := [10]) (by kernel_rfl) (by simp) ?_
            refine AllReadyH.cons (o := { dst := some 120, op := Go.Op.buildSlice 68 1 #[(0, Go.Operand.tmp 119)], type := 68, pos := "keep.go:82", after := #[{ on := 9, ground := Go.Ground.data }], guard := none }) rfl (fun Kc hK => ?_) AllReadyH.nil
            go_simp
            refine hK.out _ _ HIN4.out (fun hHeld => ?_)
            clear hK Kc
            (try simp only [Act.put]); (try simp only [List.setIfInBounds_toArray]); (try simp only [List.set_cons_succ]); (try simp only [List.set_cons_zero])
            refine wpAnyH_ready (rs := [11]) (by kernel_rfl) (by simp) ?_
            refine AllReadyH.cons (o := { dst := some 121, op := Go.Op.convert 68 9 (Go.Operand.tmp 120), type := 9, pos := "keep.go:82", after := #[{ on := 10, ground := Go.Ground.data }], guard := none }) rfl (fun Kc hK => ?_) AllReadyH.nil
            go_simp
            refine hK.out _ _ HIN4.out (fun hHeld => ?_)
            clear hK Kc
            (try simp only [Act.put]); (try simp only [List.setIfInBounds_toArray]); (try simp only [List.set_cons_succ]); (try simp only [List.set_cons_zero])
            refine wpAnyH_take (i := 12) (oi := { dst := some 122, op := Go.Op.binOp Go.BinOp.add 9 (Go.Operand.const (Go.Value.string { data := #[109] })) (Go.Operand.tmp 121) 9, type := 9, pos := "keep.go:82", after := #[{ on := 11, ground := Go.Ground.data }], guard := none }) (v := ?v12g11) rfl (by kernel_rfl) (by kernel_rfl) (by kernel_rfl) (fun _ _ _ h => h) (Or.inl ⟨by rfl, ?y12g11⟩) (by assumption) ?r12g11
            case y12g11 => (intro w hSw; obtain ⟨s0, s1⟩ := hSw; go_simp; (try with_reducible rfl))
            (try simp only [Act.put]); (try simp only [List.setIfInBounds_toArray]); (try simp only [List.set_cons_succ]); (try simp only [List.set_cons_zero])
            refine wpAnyH_ready (rs := [13]) (by kernel_rfl) (by simp) ?_
            refine AllReadyH.cons (o := { dst := some 123, op := Go.Op.call { callee := Go.Callee.value (Go.Operand.func 8), args := #[Go.Operand.tmp 115, Go.Operand.tmp 122], argTypes := #[22, 9] }, type := 0, pos := "keep.go:82", after := #[{ on := 5, ground := Go.Ground.data }, { on := 12, ground := Go.Ground.data }], guard := none }) rfl (fun Kc hK => ?_) AllReadyH.nil
            go_simp
            go_at_call 8
            with_reducible refine Calls.mono HSp.out ?_
            rintro e' V5 hq
            obtain ⟨ks', he5, hnm5, k5⟩ := HE4.out.spoil hq
            obtain rfl := hq.1
            have HA5 : Hid (AgL V V5 Z (.slice (some ⟨g6, 0, none⟩) n c6) (.slice (some ⟨g7, 0, none⟩) n c7) xs (PA xs (k + 1))) := (HT4.out.step hkl k5 he5 (fun hi => ⟨fun _ => ⟨HWs.out, by rw [HNm.out]; exact hnm5⟩, fun e => by omega⟩) (fun j ws ks hj h => h.pa hj))
            have hH5 : V5.cell? ⟨Z + 4, 0, none⟩ = some (.slice (some ⟨g7, 0, none⟩) n c7) ∧ V5.cell? ⟨g7, k * 7 + 6, none⟩ = some (.slice fo2 kl fc2) := by
              obtain ⟨g7', e7, hv7, _, hf⟩ := HA5.out.rw.fld_at hkl
              simp only [Value.slice.injEq, Option.some.injEq, Addr.mk.injEq, and_true] at hv7
              obtain ⟨rfl, -, rfl⟩ := hv7
              rw [← HFo.out.1, ← HFo.out.2.1, ← HFo.out.2.2] at hf
              exact ⟨cell1 HA5.out.rw.x7, hf⟩
            have HH5 := hidM hH5
            clear hq he5 hnm5 k5 hH5
            go_wp2_with fail
            refine hK.out _ _ HH5.out (fun hHeld => ?_)
            clear hK Kc
            (try simp only [Act.put]); (try simp only [List.setIfInBounds_toArray]); (try simp only [List.set_cons_succ]); (try simp only [List.set_cons_zero])
            refine wpAnyH_done (by kernel_rfl) ?_ _
            go_wp2_with fail
            exact ⟨⟨k + 1, by omega, by simp, HA5.out⟩, by simp [intOf]; omega⟩
      · have hkn : n = k := by omega
        subst hkn
        have HKB := hidM HK.out
        clear HK hlt
        obtain ⟨WB, rfl⟩ : ∃ WB, WB = wr := ⟨_, rfl⟩
        have c6d := cell1 HKB.out.rw.x6
        go_wp2_with fail
        go_loopw [127] (fun p wr => ∃ k : Nat, k ≤ n ∧ p = .int .i64 (k : Int) ∧ Hid (AgL V wr Z (.slice o6 n c6) (.slice o7 n c7) xs (PA xs n))) (fun p _ => n - (intOf p).toNat)
        case atStart => exact ⟨0, by omega, rfl, HKB.out⟩
        case round =>
          obtain ⟨k, hk, rfl, HK⟩ := hrel
          by_cases hlt : k < n
          · have hkl : k < xs.length := by have := HLen.out; omega
            obtain ⟨g6, e6, hv6, hc6, hw6⟩ := HK.out.rw.way_at hkl
            obtain ⟨ws, ks, he, hp⟩ := HK.out.els.el k hkl
            simp only [Value.slice.injEq] at hv6
            obtain ⟨rfl, -, rfl⟩ := hv6
            have hwv : wayV xs[k] = .slice xs[k].wo xs[k].path.length xs[k].wc := rfl
            obtain ⟨p, hpl⟩ : ∃ p, p = xs[k].path.length := ⟨_, rfl⟩
            obtain ⟨wo, hwo⟩ : ∃ wo, wo = xs[k].wo := ⟨_, rfl⟩
            obtain ⟨wc, hwc⟩ : ∃ wc, wc = xs[k].wc := ⟨_, rfl⟩
            rw [← hpl, ← hwo, ← hwc] at hwv
            have hpm : p ≤ 1000000000000 := by rw [hpl]; exact HI.out.dp k hkl
            have hown : wr.ownsRow 0 3 1 (.slice wo p wc) p ws := by
              have h := he.way
              rw [hwv, ← hpl] at h
              exact h
            rw [hwv] at hw6
            have c6e := cell1 HK.out.rw.x6
            have HGb : Hid (GwA wr wr (.slice wo p wc) 3 1 p ws (.slice wo p wc) 0) := GwA.begin hown
            have HOn := hidM hown
            have HE := hidM he
            have HP := hidM hp
            have HWv := hidM hwv
            have HPl := hidM hpl
            have hltI : (k : Int) < (n : Int) := by omega
            clear he hp hwv hwc hpl hwo hown
            obtain ⟨WC, rfl⟩ : ∃ WC, WC = wr := ⟨_, rfl⟩
            go_wp2_with fail
            go_loopw [14, 15] (fun g q wr => ∃ j : Nat, j ≤ 12 ∧ q = .int .i64 (j : Int) ∧ ∃ uo uc, g = .slice uo (p + j) uc ∧ Hid (GwA WC wr (.slice wo p wc) 3 1 p ws (.slice uo (p + j) uc) j)) (fun _ q _ => 12 - (intOf q).toNat)
            case atStart => exact ⟨0, by omega, rfl, wo, wc, rfl, HGb.out⟩
            case round =>
              obtain ⟨j, hj, rfl, uo, uc, rfl, HGj⟩ := hrel
              by_cases hjt : j < 12
              · obtain ⟨ys, hown⟩ := HGj.out.own
                obtain ⟨W3', hW3⟩ : ∃ W3', wr.alloc (.cells #[.int .i64 (-7)] 3) = W3' := ⟨_, rfl⟩
                have hg3 : Gr wr W3' := by rw [← hW3]; exact gr_alloc _ _
                have HSrc : Hid (Src Tryd.prog 1 26 (.slice (some ⟨wr.heap.size, 0, none⟩) 1 1) 1 [.int .i64 (-7)] W3') := by
                  have := src_num wr (.int .i64 (-7)) rfl
                  rw [hW3] at this
                  exact this
                have HG3 := hidM (HGj.out.gr hg3)
                have HOw := hidM (row_kp hown fun b e => hg3.block b (own_lt hown b e) id)
                have H63 : Hid (p + j + 1 ≤ 9223372036854775807) := by show _ ≤ _; omega
                have H8b : Hid ((p + j + 1) * 8 ≤ 140737488355328) := by show _ ≤ _; omega
                have hjI : (j : Int) < 12 := by omega
                clear hown hg3
                go_wp2_with (with_reducible show wpList Tryd.prog _ _ (Oper.mk (some 140) _ _ _ _ _ :: _) _ _; refine wpList_append_oldN (P := Tryd.prog) _ rfl (.tmp 138) (.tmp 139) 26 26 rfl 3 (.int .i64 0) 1 8 Tryd.underlying26 info3 rfl (.slice uo (p + j) uc) (p + j) (ws ++ ys) rfl HOw.out (.slice (some ⟨wr.heap.size, 0, none⟩) 1 1) 1 (by decide) _ rfl HSrc.out H63.out H8b.out ?_; intro v' w4 ha1 ha2 ha3; obtain ⟨xo, xc, rfl⟩ := own_formN ha1; replace ha3 := hidM (And.intro ha1 (And.intro ha2 ha3)); clear ha1 ha2)
                have HG4 : Hid (GwA WC w4 (.slice wo p wc) 3 1 p ws (.slice xo (p + j + 1) xc) (j + 1)) := HG3.out.next HOn.out HOw.out ha3.out.1 ha3.out.2.1 ha3.out.2.2
                exact ⟨⟨j + 1, by omega, by simp, xo, xc, rfl, HG4.out⟩, by simp [intOf]; omega⟩
              · have hj12 : 12 = j := by omega
                subst hj12
                obtain ⟨WD, rfl⟩ : ∃ WD, WD = wr := ⟨_, rfl⟩
                have hga := HGj.out
                rw [← HWv.out] at hga
                have hga2 : GwA WC WD (wayV xs[k]) 3 1 xs[k].path.length ws (.slice uo (p + 12) uc) 12 := by rw [← HPl.out]; exact hga
                obtain ⟨he2, k2⟩ := HE.out.app hga2
                have hA2 := HK.out.step hkl k2 he2 (P' := PA xs n) HP.out (fun j ws ks _ h => h)
                obtain ⟨g7, e7, hv7, hc7, hf7⟩ := hA2.rw.fld_at hkl
                simp only [Value.slice.injEq] at hv7
                obtain ⟨rfl, -, rfl⟩ := hv7
                have c7b := cell1 hA2.rw.x7
                obtain ⟨fo2, hfo2⟩ : ∃ fo2, fo2 = xs[k].fo := ⟨_, rfl⟩
                obtain ⟨kl, hkl2⟩ : ∃ kl, kl = xs[k].f.kids.length := ⟨_, rfl⟩
                obtain ⟨fc2, hfc2⟩ : ∃ fc2, fc2 = xs[k].fc := ⟨_, rfl⟩
                rw [← hfo2, ← hkl2, ← hfc2] at hf7
                have HGr : Hid (Calls Tryd.prog 29 #[.slice fo2 kl fc2, .string ⟨#[103, 114, 111, 119, 110]⟩] WD (GwQ WD xs[k].d xs[k].lo xs[k].mid xs[k].fo xs[k].fc ks)) := by
                  have h := grow29_any ⟨#[103, 114, 111, 119, 110]⟩ xs[k].d WD xs[k].lo xs[k].mid xs[k].fo xs[k].fc ks he2.row (by have := he2.bn; omega)
                  have hl := he2.kl
                  rw [hl] at h
                  rw [hfo2, hkl2, hfc2]
                  exact h
                have HE2 := hidM he2
                have HA2 := hidM hA2
                clear hga hga2 he2 k2 hA2 hfo2 hkl2 hfc2 hj hjt c6e hw6
                go_wp2_with (go_at_call 29; refine Hid.out ?_)
                refine (show ∀ {P : Prop}, P → Hid P from fun h => h) ?_
                with_reducible refine Calls.mono HGr.out ?_
                rintro e' V6 hq
                obtain ⟨he6, k6⟩ := HE2.out.grow hq
                obtain rfl := hq.1
                have HA6 : Hid (AgL V V6 Z (.slice (some ⟨g6, 0, none⟩) n c6) (.slice (some ⟨g7, 0, none⟩) n c7) xs (PA xs n)) := HA2.out.step hkl k6 he6 HP.out (fun j ws ks _ h => h)
                clear hq he6 k6 c7b hf7
                go_wp2_with fail
                exact ⟨⟨k + 1, by omega, by simp, HA6.out⟩, by simp [intOf]; omega⟩
          · have hkn : n = k := by omega
            subst hkn
            have HKC := hidM HK.out
            clear HK hlt HKB c6d
            obtain ⟨WE, rfl⟩ : ∃ WE, WE = wr := ⟨_, rfl⟩
            have c6f := cell1 HKC.out.rw.x6
            go_wp2_with fail
            go_loopw [151] (fun p wr => ∃ k : Nat, k ≤ n ∧ p = .int .i64 (k : Int) ∧ Hid (AgL V wr Z (.slice o6 n c6) (.slice o7 n c7) xs (PA xs n))) (fun p _ => n - (intOf p).toNat)
            case atStart => exact ⟨0, by omega, rfl, HKC.out⟩
            case round =>
              obtain ⟨k, hk, rfl, HK⟩ := hrel
              by_cases hlt : k < n
              · have hkl : k < xs.length := by have := HLen.out; omega
                obtain ⟨hkN, hpN, hfN⟩ := HXM.out k hkl
                obtain ⟨g6, e6, hv6, hc6, hw6⟩ := HK.out.rw.way_at hkl
                obtain ⟨ws, ks, he, hp⟩ := HK.out.els.el k hkl
                obtain ⟨rfl, hnm⟩ := (hp hkl).1 hlt
                obtain ⟨gw, hgw⟩ := own_some (show wr.ownsRow 0 3 1 (.slice xs[k].wo xs[k].path.length xs[k].wc) xs[k].path.length _ from he.way) (List.length_pos_iff.2 (HPn.out k hkl).1)
                simp only [Value.slice.injEq] at hv6
                obtain ⟨rfl, -, rfl⟩ := hv6
                obtain ⟨g0, wb, wc2, fo', fc', ao', ca', hvo, hvc, hcell, hnode⟩ := HOut.out.at_ hkN
                subst hvo
                have hwv : wayV xs[k] = .slice (some ⟨gw, 0, none⟩) xs[k].path.length xs[k].wc := by unfold wayV; rw [hgw]
                obtain ⟨p, hpl⟩ : ∃ p, p = xs[k].path.length := ⟨_, rfl⟩
                obtain ⟨wc, hwc⟩ : ∃ wc, wc = xs[k].wc := ⟨_, rfl⟩
                rw [← hpl, ← hwc] at hwv
                rw [hwv] at hw6
                have hpm : p ≤ 1000000000000 := by rw [hpl]; exact HI.out.dp k hkl
                have hgV : Gr w V := HW3.out.1.trans HI.out.kw (fun j hj h => by have := HXZ.out; omega)
                have hqw := hcell 0 _ rfl
                rw [← hpN, ← hpl] at hqw
                have hNway := hnode.way
                rw [← hpN] at hNway
                have HCm : Hid (∀ U, AgL V U Z (.slice (some ⟨g6, 0, none⟩) n c6) (.slice o7 n c7) xs (PA xs n) → Gr w U ∧ U.cell? ⟨Z + 2, 0, none⟩ = some (.slice (some ⟨g6, 0, none⟩) n c6) ∧ U.cell? ⟨g6, k, none⟩ = some (.slice (some ⟨gw, 0, none⟩) p wc) ∧ U.cell? ⟨X + 1, 0, none⟩ = some (.slice (some ⟨g0, 0, none⟩) n vc) ∧ U.cell? ⟨g0, k * 10, none⟩ = some (.slice (some ⟨wb, 0, none⟩) p wc2) ∧ (∀ t (ht : t < xs[k].path.length), U.cell? ⟨wb, t, none⟩ = some (.int .i64 (xs[k].path[t] : Int)) ∧ U.cell? ⟨gw, t, none⟩ = some (.int .i64 ((xs[k].path[t] : Int) + 1000 * ((k : Int) + 1))))) := fun U hU => by
                  have hgU : Gr w U := hgV.trans hU.kp (fun j hj h => by have := HXZ.out; omega)
                  obtain ⟨g6', e6, hv6, _, hw⟩ := hU.rw.way_at hkl
                  simp only [Value.slice.injEq, Option.some.injEq, Addr.mk.injEq, and_true] at hv6
                  obtain ⟨rfl, -, rfl⟩ := hv6
                  rw [hwv] at hw
                  have hx := (hU.kp.block (X + 1) (lt_of_heap HXS.out.1) (by have := HXZ.out; omega)).trans HXS.out.1
                  refine ⟨hgU, cell1 hU.rw.x6, hw, cell1 hx, hgU.cell' hqw id, fun t ht => ⟨?_, ?_⟩⟩
                  · have h := hNway.cells (g := wb) rfl t (.int .i64 (xs[k].path[t] : Int)) (by simp [ints, ht])
                    simp only [Addr.add_lit, Nat.zero_add] at h
                    exact hgU.cell' h id
                  · obtain ⟨ws, ks, he, hp⟩ := hU.els.el k hkl
                    obtain ⟨rfl, _⟩ := (hp hkl).1 hlt
                    have hway := he.way
                    rw [hwv] at hway
                    have h := hway.cells (g := gw) rfl t _ (wst_at (c := c1000 k) (t := xs[k].path.length) ht)
                    rw [if_pos ht] at h
                    simpa [Addr.add_lit, c1000] using h
                have HPl := hidM hpl
                have hltI : (k : Int) < (n : Int) := by omega
                have hvcI : n ≤ vc := by have := HNn.out; omega
                have c6g := cell1 HK.out.rw.x6
                have hpc : p ≤ wc := by
                  have h := he.way
                  rw [hwv] at h
                  rcases h.2 with ⟨q, _⟩ | ⟨g, c, cur, q, _, _, h3, _⟩
                  · cases q
                  · cases q; rw [hpl]; exact h3
                have hpc2 : p ≤ wc2 := by
                  have h := hnode.way
                  rcases h.2 with ⟨q, _⟩ | ⟨g, c, cur, q, _, _, h3, _⟩
                  · cases q
                  · cases q; rw [hpl, hpN]; exact h3
                clear he hp hgw hwv hwc hpl hcell hnode hgV hqw hNway hfN
                obtain ⟨WF, rfl⟩ : ∃ WF, WF = wr := ⟨_, rfl⟩
                go_wp2_with fail
                go_loopw [159] (fun q wr => ∃ t : Nat, t ≤ p ∧ q = .int .i64 (t : Int) ∧ Hid (AgL V wr Z (.slice (some ⟨g6, 0, none⟩) n c6) (.slice o7 n c7) xs (PA xs n))) (fun q _ => p - (intOf q).toNat)
                case atStart => exact ⟨0, by omega, rfl, HK.out⟩
                case round =>
                  obtain ⟨t, ht, rfl, HT⟩ := hrel
                  by_cases htp : t < p
                  · have hpl := HPl.out
                    have htl : t < xs[k].path.length := by omega
                    obtain ⟨_, i1, i2, i3, i4, i5⟩ := HCm.out wr HT.out
                    obtain ⟨i6, i7⟩ := i5 t htl
                    obtain ⟨pv, hpv⟩ : ∃ pv, pv = xs[k].path[t] := ⟨_, rfl⟩
                    have hpvb : pv < 1000000000000 := (HPn.out k hkl).2 pv (by rw [hpv]; exact List.getElem_mem htl)
                    rw [← hpv] at i6 i7
                    have HIN : Hid ((wr.drew.cell? ⟨Z + 2, 0, none⟩ = some (.slice (some ⟨g6, 0, none⟩) n c6) ∧ wr.drew.cell? ⟨g6, k, none⟩ = some (.slice (some ⟨gw, 0, none⟩) p wc) ∧ wr.drew.cell? ⟨gw, t, none⟩ = some (.int .i64 ((pv : Int) + 1000 * ((k : Int) + 1))) ∧ wr.drew.cell? ⟨X + 1, 0, none⟩ = some (.slice (some ⟨g0, 0, none⟩) n vc) ∧ wr.drew.cell? ⟨g0, k * 10, none⟩ = some (.slice (some ⟨wb, 0, none⟩) p wc2) ∧ wr.drew.cell? ⟨wb, t, none⟩ = some (.int .i64 (pv : Int)))) := ⟨i1, i2, i7, i3, i4, i6⟩
                    have HNx := hidM (HT.out.gr (gr_drew (w := wr)))
                    have htI : (t : Int) < (p : Int) := by omega
                    have hpvI : (pv : Int) < 1000000000000 := by omega
                    have w1 : IntKind.i64.wrap ((k : Int) + 1) = (k : Int) + 1 := by rw [IntKind.wrap_i64]; omega
                    have w2 : IntKind.i64.wrap (1000 * ((k : Int) + 1)) = 1000 * ((k : Int) + 1) := by rw [IntKind.wrap_i64]; omega
                    have w3 : IntKind.i64.wrap ((pv : Int) + 1000 * ((k : Int) + 1)) = (pv : Int) + 1000 * ((k : Int) + 1) := by rw [IntKind.wrap_i64]; omega
                    clear hpv hpl i1 i2 i3 i4 i5 i6 i7 hpvb
                    go_wp2_with fail
                    refine wp_calm ?_
                    refine wp_region_held_drew (S := fun w' => w'.cell? ⟨Z + 2, 0, none⟩ = some (.slice (some ⟨g6, 0, none⟩) n c6) ∧ w'.cell? ⟨g6, k, none⟩ = some (.slice (some ⟨gw, 0, none⟩) p wc) ∧ w'.cell? ⟨gw, t, none⟩ = some (.int .i64 ((pv : Int) + 1000 * ((k : Int) + 1))) ∧ w'.cell? ⟨X + 1, 0, none⟩ = some (.slice (some ⟨g0, 0, none⟩) n vc) ∧ w'.cell? ⟨g0, k * 10, none⟩ = some (.slice (some ⟨wb, 0, none⟩) p wc2) ∧ w'.cell? ⟨wb, t, none⟩ = some (.int .i64 (pv : Int))) (by kernel_rfl) (HIN.out) (fun hHeld => ?_)
                    refine wpAnyH_take (i := 0) (oi := { dst := some 162, op := Go.Op.load 67 (Go.Operand.tmp 6), type := 67, pos := "keep.go:93", after := #[], guard := none }) (v := ?v0h1) rfl (by kernel_rfl) (by kernel_rfl) (by kernel_rfl) (fun _ _ _ h => h) (Or.inl ⟨by rfl, ?y0h1⟩) (by assumption) ?r0h1
                    case y0h1 => (intro w hSw; obtain ⟨s0, s1, s2, s3, s4, s5⟩ := hSw; go_simp; (try with_reducible rfl))
                    (try simp only [Act.put]); (try simp only [List.setIfInBounds_toArray]); (try simp only [List.set_cons_succ]); (try simp only [List.set_cons_zero])
                    refine wpAnyH_take (i := 1) (oi := { dst := some 163, op := Go.Op.move (Go.Operand.tmp 16), type := 3, pos := "keep.go:93", after := #[], guard := none }) (v := ?v1h2) rfl (by kernel_rfl) (by kernel_rfl) (by kernel_rfl) (fun _ _ _ h => h) (Or.inl ⟨by rfl, ?y1h2⟩) (by assumption) ?r1h2
                    case y1h2 => (intro w hSw; obtain ⟨s0, s1, s2, s3, s4, s5⟩ := hSw; go_simp; (try with_reducible rfl))
                    (try simp only [Act.put]); (try simp only [List.setIfInBounds_toArray]); (try simp only [List.set_cons_succ]); (try simp only [List.set_cons_zero])
                    refine wpAnyH_take (i := 2) (oi := { dst := some 164, op := Go.Op.indexAddr 67 (Go.Operand.tmp 162) (Go.Operand.tmp 163), type := 0, pos := "keep.go:93", after := #[{ on := 0, ground := Go.Ground.data }, { on := 1, ground := Go.Ground.data }], guard := none }) (v := ?v2h3) rfl (by kernel_rfl) (by kernel_rfl) (by kernel_rfl) (fun _ _ _ h => h) (Or.inl ⟨by rfl, ?y2h3⟩) (by assumption) ?r2h3
                    case y2h3 => (intro w hSw; obtain ⟨s0, s1, s2, s3, s4, s5⟩ := hSw; go_simp; (try with_reducible rfl))
                    (try simp only [Act.put]); (try simp only [List.setIfInBounds_toArray]); (try simp only [List.set_cons_succ]); (try simp only [List.set_cons_zero])
                    refine wpAnyH_take (i := 3) (oi := { dst := some 165, op := Go.Op.load 26 (Go.Operand.tmp 164), type := 26, pos := "keep.go:93", after := #[{ on := 2, ground := Go.Ground.data }], guard := none }) (v := ?v3h4) rfl (by kernel_rfl) (by kernel_rfl) (by kernel_rfl) (fun _ _ _ h => h) (Or.inl ⟨by rfl, ?y3h4⟩) (by assumption) ?r3h4
                    case y3h4 => (intro w hSw; obtain ⟨s0, s1, s2, s3, s4, s5⟩ := hSw; go_simp; (try with_reducible rfl))
                    (try simp only [Act.put]); (try simp only [List.setIfInBounds_toArray]); (try simp only [List.set_cons_succ]); (try simp only [List.set_cons_zero])
                    refine wpAnyH_take (i := 4) (oi := { dst := some 166, op := Go.Op.move (Go.Operand.tmp 17), type := 3, pos := "keep.go:93", after := #[], guard := none }) (v := ?v4h5) rfl (by kernel_rfl) (by kernel_rfl) (by kernel_rfl) (fun _ _ _ h => h) (Or.inl ⟨by rfl, ?y4h5⟩) (by assumption) ?r4h5
                    case y4h5 => (intro w hSw; obtain ⟨s0, s1, s2, s3, s4, s5⟩ := hSw; go_simp; (try with_reducible rfl))
                    (try simp only [Act.put]); (try simp only [List.setIfInBounds_toArray]); (try simp only [List.set_cons_succ]); (try simp only [List.set_cons_zero])
                    refine wpAnyH_take (i := 5) (oi := { dst := some 167, op := Go.Op.indexAddr 26 (Go.Operand.tmp 165) (Go.Operand.tmp 166), type := 0, pos := "keep.go:93", after := #[{ on := 3, ground := Go.Ground.data }, { on := 4, ground := Go.Ground.data }], guard := none }) (v := ?v5h6) rfl (by kernel_rfl) (by kernel_rfl) (by kernel_rfl) (fun _ _ _ h => h) (Or.inl ⟨by rfl, ?y5h6⟩) (by assumption) ?r5h6
                    case y5h6 => (intro w hSw; obtain ⟨s0, s1, s2, s3, s4, s5⟩ := hSw; go_simp; (try with_reducible rfl))
                    (try simp only [Act.put]); (try simp only [List.setIfInBounds_toArray]); (try simp only [List.set_cons_succ]); (try simp only [List.set_cons_zero])
                    refine wpAnyH_take (i := 6) (oi := { dst := some 168, op := Go.Op.load 3 (Go.Operand.tmp 167), type := 3, pos := "keep.go:93", after := #[{ on := 5, ground := Go.Ground.data }], guard := none }) (v := ?v6h7) rfl (by kernel_rfl) (by kernel_rfl) (by kernel_rfl) (fun _ _ _ h => h) (Or.inl ⟨by rfl, ?y6h7⟩) (by assumption) ?r6h7
                    case y6h7 => (intro w hSw; obtain ⟨s0, s1, s2, s3, s4, s5⟩ := hSw; go_simp; (try with_reducible rfl))
                    (try simp only [Act.put]); (try simp only [List.setIfInBounds_toArray]); (try simp only [List.set_cons_succ]); (try simp only [List.set_cons_zero])
                    refine wpAnyH_take (i := 7) (oi := { dst := some 169, op := Go.Op.load 28 (Go.Operand.tmp 3), type := 28, pos := "keep.go:93", after := #[], guard := none }) (v := ?v7h8) rfl (by kernel_rfl) (by kernel_rfl) (by kernel_rfl) (fun _ _ _ h => h) (Or.inl ⟨by rfl, ?y7h8⟩) (by assumption) ?r7h8
                    case y7h8 => (intro w hSw; obtain ⟨s0, s1, s2, s3, s4, s5⟩ := hSw; go_simp; (try with_reducible rfl))
                    (try simp only [Act.put]); (try simp only [List.setIfInBounds_toArray]); (try simp only [List.set_cons_succ]); (try simp only [List.set_cons_zero])
                    refine wpAnyH_take (i := 8) (oi := { dst := some 170, op := Go.Op.move (Go.Operand.tmp 16), type := 3, pos := "keep.go:93", after := #[], guard := none }) (v := ?v8h9) rfl (by kernel_rfl) (by kernel_rfl) (by kernel_rfl) (fun _ _ _ h => h) (Or.inl ⟨by rfl, ?y8h9⟩) (by assumption) ?r8h9
                    case y8h9 => (intro w hSw; obtain ⟨s0, s1, s2, s3, s4, s5⟩ := hSw; go_simp; (try with_reducible rfl))
                    (try simp only [Act.put]); (try simp only [List.setIfInBounds_toArray]); (try simp only [List.set_cons_succ]); (try simp only [List.set_cons_zero])
                    refine wpAnyH_take (i := 9) (oi := { dst := some 171, op := Go.Op.indexAddr 28 (Go.Operand.tmp 169) (Go.Operand.tmp 170), type := 0, pos := "keep.go:93", after := #[{ on := 7, ground := Go.Ground.data }, { on := 8, ground := Go.Ground.data }], guard := none }) (v := ?v9h10) rfl (by kernel_rfl) (by kernel_rfl) (by kernel_rfl) (fun _ _ _ h => h) (Or.inl ⟨by rfl, ?y9h10⟩) (by assumption) ?r9h10
                    case y9h10 => (intro w hSw; obtain ⟨s0, s1, s2, s3, s4, s5⟩ := hSw; go_simp; (try with_reducible rfl))
                    (try simp only [Act.put]); (try simp only [List.setIfInBounds_toArray]); (try simp only [List.set_cons_succ]); (try simp only [List.set_cons_zero])
                    refine wpAnyH_take (i := 10) (oi := { dst := some 172, op := Go.Op.fieldAddr 41 (Go.Operand.tmp 171) 0, type := 0, pos := "keep.go:93", after := #[{ on := 9, ground := Go.Ground.data }], guard := none }) (v := ?v10h11) rfl (by kernel_rfl) (by kernel_rfl) (by kernel_rfl) (fun _ _ _ h => h) (Or.inl ⟨by rfl, ?y10h11⟩) (by assumption) ?r10h11
                    case y10h11 => (intro w hSw; obtain ⟨s0, s1, s2, s3, s4, s5⟩ := hSw; go_simp; (try with_reducible rfl))
                    (try simp only [Act.put]); (try simp only [List.setIfInBounds_toArray]); (try simp only [List.set_cons_succ]); (try simp only [List.set_cons_zero])
                    refine wpAnyH_take (i := 11) (oi := { dst := some 173, op := Go.Op.load 26 (Go.Operand.tmp 172), type := 26, pos := "keep.go:93", after := #[{ on := 10, ground := Go.Ground.data }], guard := none }) (v := ?v11h12) rfl (by kernel_rfl) (by kernel_rfl) (by kernel_rfl) (fun _ _ _ h => h) (Or.inl ⟨by rfl, ?y11h12⟩) (by assumption) ?r11h12
                    case y11h12 => (intro w hSw; obtain ⟨s0, s1, s2, s3, s4, s5⟩ := hSw; go_simp; (try with_reducible rfl))
                    (try simp only [Act.put]); (try simp only [List.setIfInBounds_toArray]); (try simp only [List.set_cons_succ]); (try simp only [List.set_cons_zero])
                    refine wpAnyH_take (i := 12) (oi := { dst := some 174, op := Go.Op.move (Go.Operand.tmp 17), type := 3, pos := "keep.go:93", after := #[], guard := none }) (v := ?v12h13) rfl (by kernel_rfl) (by kernel_rfl) (by kernel_rfl) (fun _ _ _ h => h) (Or.inl ⟨by rfl, ?y12h13⟩) (by assumption) ?r12h13
                    case y12h13 => (intro w hSw; obtain ⟨s0, s1, s2, s3, s4, s5⟩ := hSw; go_simp; (try with_reducible rfl))
                    (try simp only [Act.put]); (try simp only [List.setIfInBounds_toArray]); (try simp only [List.set_cons_succ]); (try simp only [List.set_cons_zero])
                    refine wpAnyH_take (i := 13) (oi := { dst := some 175, op := Go.Op.indexAddr 26 (Go.Operand.tmp 173) (Go.Operand.tmp 174), type := 0, pos := "keep.go:93", after := #[{ on := 11, ground := Go.Ground.data }, { on := 12, ground := Go.Ground.data }], guard := none }) (v := ?v13h14) rfl (by kernel_rfl) (by kernel_rfl) (by kernel_rfl) (fun _ _ _ h => h) (Or.inl ⟨by rfl, ?y13h14⟩) (by assumption) ?r13h14
                    case y13h14 => (intro w hSw; obtain ⟨s0, s1, s2, s3, s4, s5⟩ := hSw; go_simp; (try with_reducible rfl))
                    (try simp only [Act.put]); (try simp only [List.setIfInBounds_toArray]); (try simp only [List.set_cons_succ]); (try simp only [List.set_cons_zero])
                    refine wpAnyH_take (i := 14) (oi := { dst := some 176, op := Go.Op.load 3 (Go.Operand.tmp 175), type := 3, pos := "keep.go:93", after := #[{ on := 13, ground := Go.Ground.data }], guard := none }) (v := ?v14h15) rfl (by kernel_rfl) (by kernel_rfl) (by kernel_rfl) (fun _ _ _ h => h) (Or.inl ⟨by rfl, ?y14h15⟩) (by assumption) ?r14h15
                    case y14h15 => (intro w hSw; obtain ⟨s0, s1, s2, s3, s4, s5⟩ := hSw; go_simp; (try with_reducible rfl))
                    (try simp only [Act.put]); (try simp only [List.setIfInBounds_toArray]); (try simp only [List.set_cons_succ]); (try simp only [List.set_cons_zero])
                    refine wpAnyH_take (i := 15) (oi := { dst := some 177, op := Go.Op.move (Go.Operand.tmp 16), type := 3, pos := "keep.go:93", after := #[], guard := none }) (v := ?v15h16) rfl (by kernel_rfl) (by kernel_rfl) (by kernel_rfl) (fun _ _ _ h => h) (Or.inl ⟨by rfl, ?y15h16⟩) (by assumption) ?r15h16
                    case y15h16 => (intro w hSw; obtain ⟨s0, s1, s2, s3, s4, s5⟩ := hSw; go_simp; (try with_reducible rfl))
                    (try simp only [Act.put]); (try simp only [List.setIfInBounds_toArray]); (try simp only [List.set_cons_succ]); (try simp only [List.set_cons_zero])
                    refine wpAnyH_take (i := 16) (oi := { dst := some 178, op := Go.Op.binOp Go.BinOp.add 3 (Go.Operand.tmp 177) (Go.Operand.const (Go.Value.int Go.IntKind.i64 1)) 3, type := 3, pos := "keep.go:93", after := #[{ on := 15, ground := Go.Ground.data }], guard := none }) (v := ?v16h17) rfl (by kernel_rfl) (by kernel_rfl) (by kernel_rfl) (fun _ _ _ h => h) (Or.inl ⟨by rfl, ?y16h17⟩) (by assumption) ?r16h17
                    case y16h17 => (intro w hSw; obtain ⟨s0, s1, s2, s3, s4, s5⟩ := hSw; go_simp; (try with_reducible rfl))
                    (try simp only [Act.put]); (try simp only [List.setIfInBounds_toArray]); (try simp only [List.set_cons_succ]); (try simp only [List.set_cons_zero])
                    refine wpAnyH_take (i := 17) (oi := { dst := some 179, op := Go.Op.binOp Go.BinOp.mul 3 (Go.Operand.const (Go.Value.int Go.IntKind.i64 1000)) (Go.Operand.tmp 178) 3, type := 3, pos := "keep.go:93", after := #[{ on := 16, ground := Go.Ground.data }], guard := none }) (v := ?v17h18) rfl (by kernel_rfl) (by kernel_rfl) (by kernel_rfl) (fun _ _ _ h => h) (Or.inl ⟨by rfl, ?y17h18⟩) (by assumption) ?r17h18
                    case y17h18 => (intro w hSw; obtain ⟨s0, s1, s2, s3, s4, s5⟩ := hSw; go_simp; (try with_reducible rfl))
                    (try simp only [Act.put]); (try simp only [List.setIfInBounds_toArray]); (try simp only [List.set_cons_succ]); (try simp only [List.set_cons_zero])
                    refine wpAnyH_take (i := 18) (oi := { dst := some 180, op := Go.Op.binOp Go.BinOp.add 3 (Go.Operand.tmp 176) (Go.Operand.tmp 179) 3, type := 3, pos := "keep.go:93", after := #[{ on := 14, ground := Go.Ground.data }, { on := 17, ground := Go.Ground.data }], guard := none }) (v := ?v18h19) rfl (by kernel_rfl) (by kernel_rfl) (by kernel_rfl) (fun _ _ _ h => h) (Or.inl ⟨by rfl, ?y18h19⟩) (by assumption) ?r18h19
                    case y18h19 => (intro w hSw; obtain ⟨s0, s1, s2, s3, s4, s5⟩ := hSw; go_simp; (try with_reducible rfl))
                    (try simp only [Act.put]); (try simp only [List.setIfInBounds_toArray]); (try simp only [List.set_cons_succ]); (try simp only [List.set_cons_zero])
                    refine wpAnyH_take (i := 19) (oi := { dst := some 181, op := Go.Op.binOp Go.BinOp.neq 3 (Go.Operand.tmp 168) (Go.Operand.tmp 180) 3, type := 4, pos := "keep.go:93", after := #[{ on := 6, ground := Go.Ground.data }, { on := 18, ground := Go.Ground.data }], guard := none }) (v := ?v19h20) rfl (by kernel_rfl) (by kernel_rfl) (by kernel_rfl) (fun _ _ _ h => h) (Or.inl ⟨by rfl, ?y19h20⟩) (by assumption) ?r19h20
                    case y19h20 => (intro w hSw; obtain ⟨s0, s1, s2, s3, s4, s5⟩ := hSw; go_simp; (try with_reducible rfl))
                    (try simp only [Act.put]); (try simp only [List.setIfInBounds_toArray]); (try simp only [List.set_cons_succ]); (try simp only [List.set_cons_zero])
                    refine wpAnyH_done (by kernel_rfl) ?_ _
                    clear w1 w2 w3
                    go_wp2_with fail
                    exact ⟨⟨t + 1, by omega, by simp, HNx.out⟩, by simp [intOf]; omega⟩
                  · have htp' : t = p := by omega
                    subst htp'
                    clear ht htp
                    obtain ⟨WG, rfl⟩ : ∃ WG, WG = wr := ⟨_, rfl⟩
                    obtain ⟨g7, e7, hv7, hc7, hf7⟩ := HT.out.rw.fld_at hkl
                    simp only [Value.slice.injEq] at hv7
                    obtain ⟨rfl, -, rfl⟩ := hv7
                    have c7b := cell1 HT.out.rw.x7
                    obtain ⟨fo2, hfo2⟩ : ∃ fo2, fo2 = xs[k].fo := ⟨_, rfl⟩
                    obtain ⟨kl, hkl2⟩ : ∃ kl, kl = xs[k].f.kids.length := ⟨_, rfl⟩
                    obtain ⟨fc2, hfc2⟩ : ∃ fc2, fc2 = xs[k].fc := ⟨_, rfl⟩
                    rw [← hfo2, ← hkl2, ← hfc2] at hf7
                    have HFo := hidM (And.intro hfo2 (And.intro hkl2 hfc2))
                    obtain ⟨m, hm⟩ : ∃ m, m = k % 26 := ⟨_, rfl⟩
                    have hm26 : m < 26 := by omega
                    have h1 : (k : Int).tmod 26 = (m : Int) := by rw [Int.tmod_eq_emod_of_nonneg (by omega)]; omega
                    have h2 : IntKind.i64.wrap (97 + (m : Int)) = 97 + (m : Int) := by rw [IntKind.wrap_i64]; omega
                    have h3 : IntKind.u8.wrap (97 + (m : Int)) = 97 + (m : Int) := by rw [IntKind.wrap_u8]; omega
                    obtain ⟨bs, hbs⟩ : ∃ bs : ByteArray, bs = ⟨#[UInt8.ofNat (97 + m)]⟩ := ⟨_, rfl⟩
                    have hbz : bs.size = 1 := by rw [hbs]; rfl
                    have m1 := fun w => run_string_add_sum (P := Tryd.prog) w ⟨#[109]⟩ bs (by rw [hbz]; show 1 + 1 ≤ _; omega)
                    have HNm : Hid (nmOf k = ⟨#[109]⟩ ++ bs) := by show _ = _; rw [hbs, hm]; rfl
                    have HCv : Hid (∀ U : World, (convert 68 9 (.slice (some ⟨U.heap.size, 0, none⟩) 1 1)).run Tryd.prog (U.alloc (.cells #[.int .u8 (97 + (m : Int))] 5)) = .ok (.string bs) (U.alloc (.cells #[.int .u8 (97 + (m : Int))] 5))) := fun U => by
                      rw [hbs]
                      exact letter_string U m hm26
                    have hklb : kl ≤ 1000000000000 := by
                      obtain ⟨ws, ks, he, hp⟩ := HT.out.els.el k hkl
                      have h4 : ks.length ≤ 1000000000000 := he.row.len
                      have h5 := he.kl
                      omega
                    clear hbs hbz hm hfo2 hkl2 hfc2
                    go_wp2_with fail
                    go_loopw [190] (fun q wr => ∃ j : Nat, j ≤ kl ∧ q = .int .i64 (j : Int) ∧ Hid (AgL V wr Z (.slice (some ⟨g6, 0, none⟩) n c6) (.slice (some ⟨g7, 0, none⟩) n c7) xs (PA xs n))) (fun q _ => kl - (intOf q).toNat)
                    case atStart => exact ⟨0, by omega, rfl, HT.out⟩
                    case round =>
                      obtain ⟨j, hj, rfl, HJ⟩ := hrel
                      by_cases hjl : j < kl
                      · obtain ⟨ws, ks, he, hp⟩ := HJ.out.els.el k hkl
                        have hnmk := ((hp hkl).1 hlt).2
                        have hkk : j < ks.length := by have h5 := he.kl; have := HFo.out.2.1; omega
                        obtain ⟨dd, hdd⟩ : ∃ dd, dd + 1 = xs[k].d := by
                          cases hd : xs[k].d with
                          | zero => have h6 := he.row; rw [hd] at h6; have h7 := h6.1; rw [h7] at hkk; simp at hkk
                          | succ d => exact ⟨d, rfl⟩
                        have hrow := he.row
                        rw [← hdd] at hrow
                        rcases hrow.2 with ⟨q, _⟩ | ⟨gk, cur, A, hfg, a1, a2, a3, a4, a5, a6, a7, a8⟩
                        · rw [q] at hkk; simp at hkk
                        obtain ⟨-, ao', ca', hc, -⟩ := a8 j hkk
                        obtain ⟨d0, d1, d2, d3, d4, d5, d6⟩ := hc
                        rw [hnmk _ (List.getElem_mem hkk), HNm.out] at d0
                        obtain ⟨f, hf⟩ : ∃ f, f = ks[j] := ⟨_, rfl⟩
                        rw [← hf] at d1 d2 d3 d4 d5 d6
                        have hfo3 : fo2 = some ⟨gk, 0, none⟩ := by rw [HFo.out.1]; exact hfg
                        subst hfo3
                        have hjI : (j : Int) < (kl : Int) := by omega
                        have hklc : kl ≤ fc2 := by have h5 := he.kl; have h6 := HFo.out.2; omega
                        have HJ2 := hidM HJ.out
                        obtain ⟨WH, hWH⟩ : ∃ WH, wr.alloc (.cells #[.string (⟨#[109]⟩ ++ bs), .bool f.nul, .int .i64 f.kind, .int .i64 f.width, .int .i64 f.id, .int .i64 f.index, .slice ao' f.kids.length ca'] 38) = WH := ⟨_, rfl⟩
                        have hcv := HCv.out WH
                        have hgH : Gr wr WH := by rw [← hWH]; exact gr_alloc wr _
                        have hbH := heap_alloc_new wr (.cells #[.string (⟨#[109]⟩ ++ bs), .bool f.nul, .int .i64 f.kind, .int .i64 f.width, .int .i64 f.id, .int .i64 f.index, .slice ao' f.kids.length ca'] 38)
                        rw [hWH] at hbH
                        have y0 : WH.cell? ⟨wr.heap.size, 0, none⟩ = some (.string (⟨#[109]⟩ ++ bs)) := by simp [World.cell?, hbH]
                        have HGH := hidM hgH
                        clear he hp hnmk hkk hrow hfg a1 a2 a3 a4 a5 a6 a7 a8 hf hdd HJ hgH hbH
                        go_wp2_with fail
                        exact ⟨⟨j + 1, by omega, by simp, HJ2.out.gr (HGH.out.alloc _)⟩, by simp [intOf]; omega⟩
                      · have hjk : j = kl := by omega
                        subst hjk
                        clear hj hjl
                        go_wp2_with fail
                        exact ⟨⟨k + 1, by omega, by simp, HJ.out⟩, by simp [intOf]; omega⟩
              · have hkn : n = k := by omega
                subst hkn
                clear hlt
                have hkp := HK.out.kp
                have hxr := (hkp.block (X + 2) (lt_of_heap HXS.out.2) (by have := HXZ.out; omega)).trans HXS.out.2
                have hdf := (hkp.block (Z + 6) (lt_of_heap HD.out) (by omega)).trans HD.out
                have qr := cell1 hxr
                have zr := frz hxr 0
                have hgw : Gr w wr := (HW3.out.1.trans HI.out.kw (fun j hj h => by have := HXZ.out; omega)).trans hkp (fun j hj h => by have := HXZ.out; omega)
                have HFin := hidM (And.intro hxr (And.intro hdf hgw))
                clear hkp hxr hdf hgw
                go_wp2_with fail
                obtain ⟨hxr, hdf, hgw⟩ := HFin.out
                have hX := HXZ.out
                have hz3 := HZ3.out
                have b1 : (wr.setCell ⟨X + 2, 0, none⟩ (.bool true)).heap[X + 2]? = some (.cells #[.bool true] 4 (0, 0)) := by rw [setc (j := 0) hxr]; simp
                have kk := keep1 (j := 0) (Keeps.refl wr (fun b => b = X + 2)) (.bool true)
                have hd2 : (wr.setCell ⟨X + 2, 0, none⟩ (.bool true)).heap[W3.heap.size]? = some (.deferred (some [])) := by rw [hz3]; exact (kk.block _ (lt_of_heap hdf) (by omega)).trans hdf
                obtain ⟨WX, hWX⟩ : ∃ WX, wr.setCell ⟨X + 2, 0, none⟩ (.bool true) = WX := ⟨_, rfl⟩
                rw [hWX] at b1 kk hd2 ⊢
                have b2 : (WX.putObj W3.heap.size (.deferred none)).heap[X + 2]? = some (.cells #[.bool true] 4 (0, 0)) := (World.putObj_heap_other (by omega)).trans b1
                have hr6 := cell1 b2
                have hg5 : Gr w (WX.putObj W3.heap.size (.deferred none)) := (hgw.trans kk (fun j hj e => by omega)).trans (keeps_put WX W3.heap.size _) (fun j hj e => by omega)
                refine ⟨by simp, .inl ⟨_, _, rfl, run_takeDeferred hd2, ?_⟩⟩
                refine ⟨.bool true, ?_, rfl, hg5⟩
                simp [results, Tryd.f11, go_sem, hr6]
end Go.Proofs.YtjdojbbjbippoaaDoor.Kit
