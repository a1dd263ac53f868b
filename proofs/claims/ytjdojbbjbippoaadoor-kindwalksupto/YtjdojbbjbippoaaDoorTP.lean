import Derived.Test.YtjdojbbjbippoaaDoorTQ
namespace Go.Proofs.YtjdojbbjbippoaaDoor.Kit
open Go.RowKit Go.Shelf Go.Deep
set_option linter.unusedVariables false
attribute [local go_sem] Oper.semAt_some run_store_func
set_option maxRecDepth 100000 in
set_option maxHeartbeats 40000000 in
theorem walks_any (S : Nat → Prop) (D : Nat) (fo no : Option Addr) (cf cn : Nat) (fs : List FT) (ns : List (ByteArray × ByteArray)) (so : Option Addr) (sc : Nat) (stops : List Int) (w : World) (hT : Tab w) (hD : D + 2 ≤ big) (hS : ∀ b, S b → b < w.heap.size) (ha : Sch S w D fo no cf cn fs ns) (hst : ZsAt w so stops) (hsl : stops.length ≤ 1000000000) (hsc : stops.length ≤ sc) (hrg : ∀ z ∈ stops, -9223372036854775808 ≤ z)
    (hag : ∀ (w' : World) (vo : Option Addr) (vc : Nat) (N : List LS), Gr w w' → N = nodes D fs [] false → N.length ≤ 256 → OutAt S w' (.slice vo N.length vc) N → Ans 21 #[.agg #[.slice fo fs.length cf, .slice no ns.length cn]] true w' → Calls Tryd.prog 11 #[.agg #[.slice fo fs.length cf, .slice no ns.length cn], .slice vo N.length vc] w' fun e w'' => e = .returned (.bool true) ∧ Gr w' w'') :
    Calls Tryd.prog 3 #[.agg #[.slice fo fs.length cf, .slice no ns.length cn], .slice so stops.length sc] w fun e w' => e = .returned (.bool true) ∧ Gr w w' := by
  have HAW := hidM (fun W (g : Gr w W) => awake_any W (hT.gr g))
  obtain ⟨er, pp, tt, ta⟩ := ha.tells hT (by omega) hS
  have HNo := hidM (nodesR_gen ta.t12 ha.row ha.le hS)
  have HMb := hidM (maybe_gen ta.t11)
  have HTA := hidM ta
  have HA := hidM ha
  have HS := hidM hS
  have HT := hidM hT
  have HSt := hidM hst
  have HAg := hidM hag
  have HDb := hidM hD
  obtain ⟨m, hm⟩ : ∃ m, m = stops.length := ⟨_, rfl⟩
  rw [← hm] at hsl hsc ⊢
  have HM := hidM hm
  have HSl := hidM (slice_zs so m sc hsc)
  have HSc := hidM hsl
  have HRg := hidM hrg
  clear hrg
  clear ta ha hS hT hst hag hm hD hsc
  obtain ⟨X, hX⟩ : ∃ X, X = w.heap.size := ⟨_, rfl⟩
  have hA2 := alloc2 w (.cells #[.slice fo fs.length cf, .slice no ns.length cn] 25) (.cells #[.bool false] 4)
  obtain ⟨W0, hW0⟩ : ∃ W0, (w.alloc (.cells #[.slice fo fs.length cf, .slice no ns.length cn] 25)).alloc (.cells #[.bool false] 4) = W0 := ⟨_, rfl⟩
  rw [hW0, ← hX] at hA2
  have HX := hidM hA2
  have HXe := hidM hX
  clear hA2
  refine (callsIn_wide (n := 10)).1 ?_
  refine callsIn_of_wp_marks Tryd.func3 rfl trivial ?_ rfl
  simp only [Tryd.ntmps3, List.size_toArray, List.length_cons, List.length_nil, Nat.reduceAdd, Nat.reduceSub, Array.replicate_succ, Array.replicate_zero, List.push_toArray, List.append_toArray, List.nil_append, List.cons_append]
  refine wpIn_wide.2 ?_
  refine cutTail fun C hC => ?_
  have HC := hidM hC
  clear hC
  go_wp2_with (go_at_call 4; refine Hid.out ?_)
  unfold Hid
  try rw [← hX]
  refine Calls.mono (HAW.out _ HX.out.2.2) ?_
  rintro e W1 ⟨rfl, hg1⟩
  have y1 := (hg1.block _ (lt_of_heap HX.out.1) id).trans HX.out.1
  have y2 := (hg1.block _ (lt_of_heap HX.out.2.1) id).trans HX.out.2.1
  have hgw1 : Gr w W1 := HX.out.2.2.trans hg1 (fun _ _ h => h)
  obtain ⟨p0, p1⟩ := cell2 y1
  have HY1 := hidM (And.intro y1 (And.intro y2 hgw1))
  clear hg1 y1 y2 hgw1 hX
  go_wp2_with (go_at_call 5; refine Hid.out ?_)
  unfold Hid
  refine Calls.mono (HNo.out _ HY1.out.2.2) ?_
  rintro e W2 ⟨n, vo, vc, rfl, hg2, hbad, hok⟩
  have hNs : er = 0 → n = (nodes D fs [] false).length ∧ OutAt S W2 (.slice vo (nodes D fs [] false).length vc) (nodes D fs [] false) ∧ (nodes D fs [] false).length ≤ 256 := fun h0 => by
    have hz : AllR (nodes D fs [] false) := (FaultIs.zero (by have h := HTA.out.is; rw [h0] at h; exact h)).2
    obtain ⟨h1, h2, _⟩ := hok h0
    rw [allr_cut hz] at h1 h2
    exact ⟨h1, h2, by have := hz.len; omega⟩
  have z1 := (hg2.block _ (lt_of_heap HY1.out.1) id).trans HY1.out.1
  have z2 := (hg2.block _ (lt_of_heap HY1.out.2.1) id).trans HY1.out.2.1
  have hgw2 : Gr w W2 := HY1.out.2.2.trans hg2 (fun _ _ h => h)
  obtain ⟨p0, p1⟩ := cell2 z1
  have hA3 := alloc2 W2 (.cells #[.slice vo n vc] 28) (.cells #[.slice fo fs.length cf, .slice no ns.length cn] 25)
  obtain ⟨W3, hW3⟩ : ∃ W3, (W2.alloc (.cells #[.slice vo n vc] 28)).alloc (.cells #[.slice fo fs.length cf, .slice no ns.length cn] 25) = W3 := ⟨_, rfl⟩
  have hW3z : W3.heap.size = W2.heap.size + 2 := by rw [← hW3]; simp
  rw [hW3] at hA3
  have x3 := (hA3.2.2.block _ (lt_of_heap z1) id).trans z1
  have r3 := (hA3.2.2.block _ (lt_of_heap z2) id).trans z2
  have hXb : X + 1 < W2.heap.size := lt_of_heap z2
  have q0 : (W2.alloc (.cells #[.slice vo n vc] 28)).cell? ⟨X, 0, none⟩ = some (.slice fo fs.length cf) := (gr_alloc W2 _).cell' p0 id
  have q1 : (W2.alloc (.cells #[.slice vo n vc] 28)).cell? ⟨X, 1, none⟩ = some (.slice no ns.length cn) := (gr_alloc W2 _).cell' p1 id
  have hgw3 : Gr w W3 := hgw2.trans hA3.2.2 (fun _ _ h => h)
  obtain ⟨s0, s1⟩ := cell2 x3
  have w5 := cell1 hA3.1
  obtain ⟨t0, t1⟩ := cell2 hA3.2.1
  have HW3 := hidM (And.intro hgw3 (And.intro hA3.2.2 (And.intro x3 (And.intro r3 (And.intro hA3.1 (And.intro hA3.2.1 hW3z))))))
  have HNs := hidM hNs
  have HBad := hidM hbad
  have HG2 := hidM (And.intro hgw2 hg2)
  have HXb := hidM hXb
  clear hNs hbad hok z1 z2 hgw2 hg2 x3 r3 hgw3 hA3 hXb
  have hnil : ∀ (K : Nat) w, (binOp .eql 32 (.func (.func 23) #[] #[.pointer (some ⟨K, 0, none⟩)]) .nilFunc).run Tryd.prog w = .ok (.bool false) w := fun K w => by kernel_rfl
  have HRest : Hid (∀ (W5 : World) (K : Nat) (ko : Option Addr) (kc D' : Nat) (l' : List FT) (Sk : Nat → Prop) (N0 : List LS) (z14 z15 z16 z17 z18 z19 z20 z21 z22 z23 z24 z25 z26 z27 z28 z29 z30 z31 z32 z33 : Value), MidW w W2 W5 X n #[.slice fo fs.length cf, .slice no ns.length cn] vo vc N0 W2.heap.size K ko kc D' l' Sk → n = N0.length → (0 < n → N0 = nodes D fs [] false) → C.wp Tryd.prog (bodyPostM Fence.wide 10 Tryd.prog Tryd.f3 fun e w' => e = .returned (.bool true) ∧ Gr w w') (MidAct #[.slice fo fs.length cf, .slice no ns.length cn] so m sc X W2.heap.size K z14 z15 z16 z17 z18 z19 z20 z21 z22 z23 z24 z25 z26 z27 z28 z29 z30 z31 z32 z33) W5) := by
    intro W5 K ko kc D' l' Sk N0 z14 z15 z16 z17 z18 z19 z20 z21 z22 z23 z24 z25 z26 z27 z28 z29 z30 z31 z32 z33 hmid hnN hN0
    rw [HC.out]
    have HMid := hidM hmid
    have HnN := hidM hnN
    have HN0 := hidM hN0
    have Hn256 : Hid (n ≤ 256) := by
      show n ≤ 256
      by_cases h0 : 0 < n
      · have h1 : er = 0 := Classical.byContradiction fun h => by have := HBad.out h; omega
        have h2 := HNs.out h1
        omega
      · omega
    have hsl43 := HSl.out
    obtain ⟨W6, hW6⟩ : ∃ W6, W5.alloc (.cells #[.int .i64 1048576] 3) = W6 := ⟨_, rfl⟩
    have hg6 : Gr W5 W6 := by rw [← hW6]; exact gr_alloc W5 _
    have HSrc : Hid (Src Tryd.prog 1 26 (.slice (some ⟨W5.heap.size, 0, none⟩) 1 1) 1 [.int .i64 1048576] W6) := by
      rw [← hW6]
      exact src_num W5 _ rfl
    have HZs : Hid (ZsAt W6 so stops) := HSt.out.gr (hmid.gw.trans hg6 (fun _ _ h => h))
    have HG6 := hidM hg6
    clear hmid hnN hN0 hg6 HC p0 p1 q0 q1 s0 s1 t0 t1 w5 hW3
    unfold MidAct
    go_wp2_with (with_reducible show wpList Tryd.prog _ _ (Oper.mk (some 41) _ _ _ _ _ :: _) _ _; refine wpList_append_zs _ rfl (.tmp 39) (.tmp 40) rfl so m stops HM.out rfl HZs.out (by have := HM.out; have := HSc.out; omega) (.slice (some ⟨W5.heap.size, 0, none⟩) 1 1) (.int .i64 1048576) rfl HSrc.out ?_; intro v' W7 ha1 ha2 ha3; rw [← HM.out] at ha1; obtain ⟨xo, xc, rfl⟩ := own_formN ha1; replace ha3 := hidM (And.intro ha1 (And.intro ha2 ha3)); clear ha1 ha2)
    obtain ⟨gS, hgS⟩ := own_some ha3.out.1 (by omega)
    subst hgS
    have hscc : m + 1 ≤ xc := by
      rcases ha3.out.1.2 with ⟨q, _⟩ | ⟨g, c, cur, q, _, _, h3, _⟩
      · cases q
      · cases q; exact h3
    have HStp : Hid (∀ (V : World) (k : Nat), Gr W7 V → k < m + 1 → ∃ st : Int, V.cell? ⟨gS, k, none⟩ = some (.int .i64 st) ∧ -9223372036854775808 ≤ st) := fun V k g hk => by
      have hl := HM.out
      by_cases hk2 : k < stops.length
      · refine ⟨stops[k], g.cell' ?_ id, HRg.out _ (List.getElem_mem hk2)⟩
        have h := ha3.out.1.cells (g := gS) rfl k (.int .i64 stops[k]) (by rw [List.getElem?_append_left (by simpa using hk2)]; simp [hk2])
        simpa [Addr.add_lit] using h
      · have hk3 : k = stops.length := by omega
        refine ⟨1048576, g.cell' ?_ id, by decide⟩
        have h := ha3.out.1.cells (g := gS) rfl k (.int .i64 1048576) (by rw [List.getElem?_append_right (by simp; omega)]; simp [hk3])
        simpa [Addr.add_lit] using h
    have hmb : m ≤ 1000000000 := HSc.out
    refine wp_loop (LpI W7 (m + 1) (fun k u9 u10 u44 u45 u46 u47 u100 u101 u102 u103 u104 u105 u106 u107 u108 u109 u110 u111 => #[.agg #[.slice fo fs.length cf, .slice no ns.length cn], .slice so m sc, .pointer (some ⟨X, 0, none⟩), undef, .pointer (some ⟨X + 1, 0, none⟩), .pointer (some ⟨W2.heap.size, 0, none⟩), .pointer (some ⟨W2.heap.size + 1, 0, none⟩), .func (.func 23) #[] #[.pointer (some ⟨K, 0, none⟩)], undef, u9, u10, undef, undef, undef, z14, z15, z16, z17, z18, z19, z20, z21, z22, z23, z24, z25, z26, z27, z28, z29, z30, z31, z32, z33, .slice so m sc, .slice so m sc, .int .i64 (m : Int), .slice so m sc, .int .i64 (m : Int), .slice so m m, .slice (some ⟨W5.heap.size, 0, none⟩) 1 1, .slice (some ⟨gS, 0, none⟩) (m + 1) xc, .int .i64 ((m : Int) + 1), .int .i64 (k : Int), u44, u45, u46, u47, undef, undef, undef, undef, undef, undef, undef, undef, undef, undef, undef, undef, undef, undef, undef, undef, undef, undef, undef, undef, undef, undef, undef, undef, undef, undef, undef, undef, undef, undef, undef, undef, undef, undef, undef, undef, undef, undef, undef, undef, undef, undef, undef, undef, undef, undef, undef, undef, undef, undef, undef, undef, u100, u101, u102, u103, u104, u105, u106, u107, u108, u109, u110, u111])) (fun a _ => m + 1 - (intOf (a.tmps.getD 43 undef)).toNat) ⟨0, [], undef, undef, undef, undef, undef, undef, undef, undef, undef, undef, undef, undef, undef, undef, undef, undef, undef, undef, by omega, rfl, Keeps.refl _ _, ⟨(fun r h => by cases h), List.nodup_nil⟩, (fun r h => by cases h)⟩ ?_
    rintro _ V ⟨k, rs, u9, u10, u44, u45, u46, u47, u100, u101, u102, u103, u104, u105, u106, u107, u108, u109, u110, u111, hk, rfl, hlp⟩
    have HLp := hidM hlp
    clear hlp
    by_cases hlt : k < m + 1
    · obtain ⟨st, hst, hstm⟩ := HStp.out V k HLp.out.gr hlt
      have HStm := hidM hstm
      clear hstm
      have hltI : (k : Int) < (m : Int) + 1 := by omega
      have hA6 := alloc2 V (.cells #[.int .i64 st] 3) (.cells #[.int .i64 0] 3)
      go_wp2_with fail
      generalize hY : V.heap.size = Y at hA6 ⊢
      obtain ⟨V6, hV6⟩ : ∃ V6, (V.alloc (.cells #[.int .i64 st] 3)).alloc (.cells #[.int .i64 0] 3) = V6 := ⟨_, rfl⟩
      have hz6 : V6.heap.size = Y + 2 := by rw [← hV6, ← hY]; simp
      rw [hV6] at hA6 ⊢
      obtain ⟨y9, y10, hgV⟩ := hA6
      have hg57 : Gr W5 W7 := HG6.out.trans ha3.out.2.1 (fun _ _ h => h)
      have hg56 : Gr W5 V6 := (hg57.trans HLp.out.gr (fun _ _ h => h)).trans hgV (fun _ _ h => h)
      have hgw6 : Gr w V6 := HMid.out.gw.trans hg56 (fun _ _ h => h)
      have hk6 := (hg56.block K (lt_of_heap HMid.out.k) id).trans HMid.out.k
      have hseq := walk1_seq (10 - 1) K (by decide) Sk D' ko kc l' V6 (cell1 hk6) (HMid.out.row.kept fun b hb => hg56.block b (HMid.out.sk b hb) id) HMid.out.le HMid.out.d (fun b hb => by have := HMid.out.sk b hb; have := hg56.size; omega)
      rw [HMid.out.nd] at hseq
      have HY5 : Hid (W5.heap.size ≤ Y) := by have h1 := (hg57.trans HLp.out.gr (fun _ _ h => h)).size; show _ ≤ _; omega
      have HW7Y : Hid (W7.heap.size ≤ Y) := by have h1 := HLp.out.gr.size; show _ ≤ _; omega
      have HZ6 := hidM hz6
      have HV6 := hidM (And.intro hg56 (And.intro hgw6 (And.intro y9 (And.intro y10 (And.intro hgV hY)))))
      clear hz6 hg57 hg56 hgw6 hk6 y9 y10 hgV hV6 hst hY
      refine (wpIn_wide (n := 10)).1 ?_
      refine rangeM (by decide) (gf := 23) (lb := #[.pointer (some ⟨K, 0, none⟩)]) rfl (enters_of Tryd.func23 (by kernel_rfl) rfl) hseq (fun _ => rfl) (fun b hb => by have := HMid.out.sk b hb; have := HV6.out.1.size; omega)
        (fun O M x A B h hA hO k => h.kept k (fun b hb => .inl (by omega)))
        (fun O M xs V2 => WkI V6 Y n st xs V2)
        (fun O O' M pre A B h hA hO k hO' => h.keep k HZ6.out (fun b hb => by have := (hO b hb).1; have := HZ6.out; omega))
        (fun O M pre A B h k => h.keep k HZ6.out (fun b hb => by have := HZ6.out; omega))
        (fun O c pre V2 => WkO V6 Y n st N0 O c pre V2) ?hIx ?h0
        (fun x a' V2 => ∃ Bx, V2.heap[Bx]? = some (.cells #[.string x.f.name, .bool x.f.nul, .int .i64 x.f.kind, .int .i64 x.f.width, .int .i64 x.f.id, .int .i64 x.f.index, .slice x.fo x.f.kids.length x.fc] 38) ∧ Y + 4 ≤ Bx ∧ x.hi ≤ Bx ∧ a' = { tmps := #[.agg #[.slice fo fs.length cf, .slice no ns.length cn], .slice so m sc, .pointer (some ⟨X, 0, none⟩), undef, .pointer (some ⟨X + 1, 0, none⟩), .pointer (some ⟨W2.heap.size, 0, none⟩), .pointer (some ⟨W2.heap.size + 1, 0, none⟩), .func (.func 23) #[] #[.pointer (some ⟨K, 0, none⟩)], undef, .pointer (some ⟨Y, 0, none⟩), .pointer (some ⟨Y + 1, 0, none⟩), .slice x.wo x.path.length x.wc, .pointer (some ⟨Bx, 0, none⟩), undef, z14, z15, z16, z17, z18, z19, z20, z21, z22, z23, z24, z25, z26, z27, z28, z29, z30, z31, z32, z33, .slice so m sc, .slice so m sc, .int .i64 (m : Int), .slice so m sc, .int .i64 (m : Int), .slice so m m, .slice (some ⟨W5.heap.size, 0, none⟩) 1 1, .slice (some ⟨gS, 0, none⟩) (m + 1) xc, .int .i64 ((m : Int) + 1), .int .i64 (k : Int), .bool true, .pointer (some ⟨gS, k, none⟩), .int .i64 st, .func (.func 23) #[] #[.pointer (some ⟨K, 0, none⟩)], .slice x.wo x.path.length x.wc, .agg #[.string x.f.name, .bool x.f.nul, .int .i64 x.f.kind, .int .i64 x.f.width, .int .i64 x.f.id, .int .i64 x.f.index, .slice x.fo x.f.kids.length x.fc], undef, undef, undef, undef, undef, undef, undef, undef, undef, undef, undef, undef, undef, undef, undef, undef, undef, undef, undef, undef, undef, undef, undef, undef, undef, undef, undef, undef, undef, undef, undef, undef, undef, undef, undef, undef, undef, undef, undef, undef, undef, undef, undef, undef, undef, undef, undef, undef, undef, undef, u100, u101, u102, u103, u104, u105, u106, u107, u108, u109, u110, u111], defers := [] })
        (fun x a' A B h hk => by
          obtain ⟨Bx, h1, h3, h5, h4⟩ := h
          exact ⟨Bx, (hk.block Bx (lt_of_heap h1) (fun e => by have := HZ6.out; omega)).trans h1, h3, h5, h4⟩)
        ?assign ?body ?done ?stop
      case hIx => exact fun O c pre A B h k => h.keep HZ6.out k
      case h0 =>
        intro V2 k2 hs2
        exact ⟨k2.mono fun _ _ f => f.elim, (k2.block _ (lt_of_heap HV6.out.2.2.2.1) id).trans HV6.out.2.2.2.1, Nat.zero_le _, fun h => by simp at h⟩
      case assign =>
        intro l O M x V2 K' hat hz hK
        unfold encW
        gi_wp2
        refine hK _ _ (gr_alloc V2 _) ⟨V2.heap.size, World.alloc_heap_new V2 _, by have := HZ6.out; omega, hat.bn.2.2.2, rfl⟩
      case body =>
        rintro ll O M xs x a' V2 hi hat ⟨Bx, hbx, hBx, hBh, rfl⟩ hO hz2 hrec hll
        have hz6 := HZ6.out
        have hat : AtW (Y + 4) O M x V2 := by have h := hat; rw [hz6] at h; exact h
        have hO4 : ∀ b, O b → Y + 4 ≤ b ∧ b < V2.heap.size := fun b h => by have := hO b h; omega
        have hgV : Gr W5 V2 := HV6.out.1.trans hi.k (fun j hj e => by have := HY5.out; omega)
        have hxs := (hgV.block _ (lt_of_heap HMid.out.xs) id).trans HMid.out.xs
        have hxr := (hgV.block _ (lt_of_heap HMid.out.xr) id).trans HMid.out.xr
        have hxw := (hgV.block _ (lt_of_heap HMid.out.xw) id).trans HMid.out.xw
        have hxt := (hi.k.block Y (lt_of_heap HV6.out.2.2.1) (by omega)).trans HV6.out.2.2.1
        obtain ⟨L, hL⟩ : ∃ L, L = xs.length := ⟨_, rfl⟩
        have hb10 := hi.b
        rw [← hL] at hb10
        have q10 := cell1 hb10
        have qw := cell1 hxw
        have qr := cell1 hxr
        have zr := frz hxr 0
        have HLeft : Hid (∀ (V3 : World) (T : Nat → Prop), Keeps V2 V3 T → (∀ b, T b → b = X + 1 ∨ b = Y + 1 ∨ (x.lo ≤ b ∧ b < x.hi)) → Left Sk O V6.heap.size V2 V3) := fun V3 T k hT => by
          have h1 := HMid.out.lt
          have h2 := HMid.out.g2.size
          have h3 := HY5.out
          have h4 := hat.bn
          refine ⟨fun b hb => ?_, k.size⟩
          refine k.block b ?_ fun t => ?_
          · rcases hb with hb | hb | hb | hb
            · have := HMid.out.sk b hb; have := hgV.size; omega
            · exact (hO4 b hb).2
            · omega
            · omega
          · have ht := hT b t
            rcases hb with hb | hb | hb | hb
            · have := HMid.out.sk b hb; have := HMid.out.sn b hb; omega
            · have := (hO4 b hb).1
              rcases ht with ht | ht | ht
              · omega
              · omega
              · exact hat.no b ht.1 ht.2 hb
            · omega
            · omega
        have HRet : Hid (∀ V3, Gr V2 V3 → NxW N0 (xs ++ [x]) → Left Sk O V6.heap.size V2 (V3.setCell ⟨X + 1, 0, none⟩ (.bool false)) ∧ WkO V6 Y n st N0 O .ret (xs ++ [x]) (V3.setCell ⟨X + 1, 0, none⟩ (.bool false))) := fun V3 g hn => by
          refine ⟨HLeft.out _ (fun b => b = X + 1) (Keeps.trans (g.mono fun _ _ h => h.elim) (keep1 (j := 0) (Keeps.refl V3 (fun b => b = X + 1)) (.bool false)) (fun _ _ h => h)) (fun b h => .inl h), .inl ⟨rfl, hn⟩⟩
        have hLn : L ≤ n := by rw [hL]; exact hi.len
        have HHi := hidM hi
        have HAT := hidM hat
        have HO4 := hidM hO4
        have HGV := hidM hgV
        have HBX : Hid (Sx7 Bx x V2) := hbx
        have HBB := hidM (And.intro hBx hBh)
        have HXS := hidM (And.intro hxs (And.intro hxr (And.intro hxw (And.intro hxt hb10))))
        have HL := hidM hL
        clear hi hat hO4 hgV hbx hBx hBh hO hz2 hrec hxs hxw hxt hb10 hL hz6
        refine wpIn_block ?_
        refine wpIn_seq ?_
        refine wpIn_seq ?_
        by_cases hA : L = n
        · subst hA
          have hHeld : (fun w' : World => w'.cell? ⟨Y + 1, 0, none⟩ = some (.int .i64 (L : Int)) ∧ w'.cell? ⟨W2.heap.size, 0, none⟩ = some (.slice vo L vc)) V2.drew := ⟨q10, qw⟩
          refine region_round (S := fun w' => w'.cell? ⟨Y + 1, 0, none⟩ = some (.int .i64 (L : Int)) ∧ w'.cell? ⟨W2.heap.size, 0, none⟩ = some (.slice vo L vc)) (by kernel_rfl) (noDefer_spec (by kernel_rfl)) (fun ⟨_, _, h⟩ => h) ?_
          refine wpAnyH_take (i := 0) (oi := { dst := some 50, op := Go.Op.load 3 (Go.Operand.tmp 10), type := 3, pos := "keep.go:29", after := #[], guard := none }) (v := ?v0a1) rfl (by kernel_rfl) (by kernel_rfl) (by kernel_rfl) (fun _ _ _ h => h) (Or.inl ⟨by rfl, ?y0a1⟩) (by assumption) ?r0a1
          case y0a1 => (intro w hSw; obtain ⟨s0, s1⟩ := hSw; go_simp; (try with_reducible rfl))
          (try simp only [Act.put]); (try simp only [List.setIfInBounds_toArray]); (try simp only [List.set_cons_succ]); (try simp only [List.set_cons_zero])
          refine wpAnyH_take (i := 1) (oi := { dst := some 51, op := Go.Op.load 28 (Go.Operand.tmp 5), type := 28, pos := "keep.go:29", after := #[], guard := none }) (v := ?v1a2) rfl (by kernel_rfl) (by kernel_rfl) (by kernel_rfl) (fun _ _ _ h => h) (Or.inl ⟨by rfl, ?y1a2⟩) (by assumption) ?r1a2
          case y1a2 => (intro w hSw; obtain ⟨s0, s1⟩ := hSw; go_simp; (try with_reducible rfl))
          (try simp only [Act.put]); (try simp only [List.setIfInBounds_toArray]); (try simp only [List.set_cons_succ]); (try simp only [List.set_cons_zero])
          refine wpAnyH_take (i := 2) (oi := { dst := some 52, op := Go.Op.call { callee := Go.Callee.builtin Go.Builtin.len, args := #[Go.Operand.tmp 51], argTypes := #[28] }, type := 3, pos := "keep.go:29", after := #[{ on := 1, ground := Go.Ground.data }], guard := none }) (v := ?v2a3) rfl (by kernel_rfl) (by kernel_rfl) (by kernel_rfl) (fun _ _ _ h => h) (Or.inl ⟨by rfl, ?y2a3⟩) (by assumption) ?r2a3
          case y2a3 => (intro w hSw; obtain ⟨s0, s1⟩ := hSw; go_simp; (try with_reducible rfl))
          (try simp only [Act.put]); (try simp only [List.setIfInBounds_toArray]); (try simp only [List.set_cons_succ]); (try simp only [List.set_cons_zero])
          refine wpAnyH_take (i := 3) (oi := { dst := some 53, op := Go.Op.binOp Go.BinOp.geq 3 (Go.Operand.tmp 50) (Go.Operand.tmp 52) 3, type := 4, pos := "keep.go:29", after := #[{ on := 0, ground := Go.Ground.data }, { on := 2, ground := Go.Ground.data }], guard := none }) (v := ?v3a4) rfl (by kernel_rfl) (by kernel_rfl) (by kernel_rfl) (fun _ _ _ h => h) (Or.inl ⟨by rfl, ?y3a4⟩) (by assumption) ?r3a4
          case y3a4 => (intro w hSw; obtain ⟨s0, s1⟩ := hSw; go_simp; (try with_reducible rfl))
          (try simp only [Act.put]); (try simp only [List.setIfInBounds_toArray]); (try simp only [List.set_cons_succ]); (try simp only [List.set_cons_zero])
          refine wpAnyH_take (i := 4) (oi := { dst := some 54, op := Go.Op.move (Go.Operand.tmp 53), type := 4, pos := "keep.go:29", after := #[{ on := 3, ground := Go.Ground.data }], guard := none }) (v := ?v4a5) rfl (by kernel_rfl) (by kernel_rfl) (by kernel_rfl) (fun _ _ _ h => h) (Or.inl ⟨by rfl, ?y4a5⟩) (by assumption) ?r4a5
          case y4a5 => (intro w hSw; obtain ⟨s0, s1⟩ := hSw; go_simp; (try with_reducible rfl))
          (try simp only [Act.put]); (try simp only [List.setIfInBounds_toArray]); (try simp only [List.set_cons_succ]); (try simp only [List.set_cons_zero])
          refine wpAnyH_take (i := 5) (oi := { dst := some 55, op := Go.Op.move (Go.Operand.tmp 11), type := 26, pos := "keep.go:29", after := #[{ on := 4, ground := Go.Ground.guard }], guard := some (4, false) }) (v := undef) rfl (by kernel_rfl) (by kernel_rfl) (by kernel_rfl) (fun _ _ _ h => h) (Or.inr ⟨by kernel_rfl, rfl⟩) (by assumption) ?r5a6
          (try simp only [Act.put]); (try simp only [List.setIfInBounds_toArray]); (try simp only [List.set_cons_succ]); (try simp only [List.set_cons_zero])
          refine wpAnyH_take (i := 6) (oi := { dst := some 56, op := Go.Op.load 28 (Go.Operand.tmp 5), type := 28, pos := "keep.go:29", after := #[{ on := 4, ground := Go.Ground.guard }], guard := some (4, false) }) (v := undef) rfl (by kernel_rfl) (by kernel_rfl) (by kernel_rfl) (fun _ _ _ h => h) (Or.inr ⟨by kernel_rfl, rfl⟩) (by assumption) ?r6a7
          (try simp only [Act.put]); (try simp only [List.setIfInBounds_toArray]); (try simp only [List.set_cons_succ]); (try simp only [List.set_cons_zero])
          refine wpAnyH_take (i := 7) (oi := { dst := some 57, op := Go.Op.load 3 (Go.Operand.tmp 10), type := 3, pos := "keep.go:29", after := #[{ on := 4, ground := Go.Ground.guard }], guard := some (4, false) }) (v := undef) rfl (by kernel_rfl) (by kernel_rfl) (by kernel_rfl) (fun _ _ _ h => h) (Or.inr ⟨by kernel_rfl, rfl⟩) (by assumption) ?r7a8
          (try simp only [Act.put]); (try simp only [List.setIfInBounds_toArray]); (try simp only [List.set_cons_succ]); (try simp only [List.set_cons_zero])
          refine wpAnyH_take (i := 8) (oi := { dst := some 58, op := Go.Op.indexAddr 28 (Go.Operand.tmp 56) (Go.Operand.tmp 57), type := 0, pos := "keep.go:29", after := #[{ on := 6, ground := Go.Ground.data }, { on := 7, ground := Go.Ground.data }, { on := 4, ground := Go.Ground.guard }], guard := some (4, false) }) (v := undef) rfl (by kernel_rfl) (by kernel_rfl) (by kernel_rfl) (fun _ _ _ h => h) (Or.inr ⟨by kernel_rfl, rfl⟩) (by assumption) ?r8a9
          (try simp only [Act.put]); (try simp only [List.setIfInBounds_toArray]); (try simp only [List.set_cons_succ]); (try simp only [List.set_cons_zero])
          refine wpAnyH_take (i := 9) (oi := { dst := some 59, op := Go.Op.fieldAddr 41 (Go.Operand.tmp 58) 0, type := 0, pos := "keep.go:29", after := #[{ on := 8, ground := Go.Ground.data }, { on := 4, ground := Go.Ground.guard }], guard := some (4, false) }) (v := undef) rfl (by kernel_rfl) (by kernel_rfl) (by kernel_rfl) (fun _ _ _ h => h) (Or.inr ⟨by kernel_rfl, rfl⟩) (by assumption) ?r9a10
          (try simp only [Act.put]); (try simp only [List.setIfInBounds_toArray]); (try simp only [List.set_cons_succ]); (try simp only [List.set_cons_zero])
          refine wpAnyH_take (i := 10) (oi := { dst := some 60, op := Go.Op.load 26 (Go.Operand.tmp 59), type := 26, pos := "keep.go:29", after := #[{ on := 9, ground := Go.Ground.data }, { on := 4, ground := Go.Ground.guard }], guard := some (4, false) }) (v := undef) rfl (by kernel_rfl) (by kernel_rfl) (by kernel_rfl) (fun _ _ _ h => h) (Or.inr ⟨by kernel_rfl, rfl⟩) (by assumption) ?r10a11
          (try simp only [Act.put]); (try simp only [List.setIfInBounds_toArray]); (try simp only [List.set_cons_succ]); (try simp only [List.set_cons_zero])
          refine wpAnyH_take (i := 11) (oi := { dst := some 61, op := Go.Op.call { callee := Go.Callee.value (Go.Operand.func 9), args := #[Go.Operand.tmp 55, Go.Operand.tmp 60], argTypes := #[26, 26] }, type := 4, pos := "keep.go:29", after := #[{ on := 5, ground := Go.Ground.data }, { on := 10, ground := Go.Ground.data }, { on := 4, ground := Go.Ground.chain }, { on := 4, ground := Go.Ground.guard }], guard := some (4, false) }) (v := undef) rfl (by kernel_rfl) (by kernel_rfl) (by kernel_rfl) (fun _ _ _ h => h) (Or.inr ⟨by kernel_rfl, rfl⟩) (by assumption) ?r11a12
          (try simp only [Act.put]); (try simp only [List.setIfInBounds_toArray]); (try simp only [List.set_cons_succ]); (try simp only [List.set_cons_zero])
          refine wpAnyH_take (i := 12) (oi := { dst := some 62, op := Go.Op.unOp Go.UnOp.not 4 (Go.Operand.tmp 61), type := 4, pos := "keep.go:29", after := #[{ on := 11, ground := Go.Ground.data }, { on := 4, ground := Go.Ground.guard }], guard := some (4, false) }) (v := undef) rfl (by kernel_rfl) (by kernel_rfl) (by kernel_rfl) (fun _ _ _ h => h) (Or.inr ⟨by kernel_rfl, rfl⟩) (by assumption) ?r12a13
          (try simp only [Act.put]); (try simp only [List.setIfInBounds_toArray]); (try simp only [List.set_cons_succ]); (try simp only [List.set_cons_zero])
          refine wpAnyH_take (i := 13) (oi := { dst := some 63, op := Go.Op.pick (Go.Operand.tmp 54) (Go.Operand.const (Go.Value.bool true)) (Go.Operand.tmp 62), type := 4, pos := "keep.go:29", after := #[{ on := 4, ground := Go.Ground.data }, { on := 12, ground := Go.Ground.data }], guard := none }) (v := ?v13a14) rfl (by kernel_rfl) (by kernel_rfl) (by kernel_rfl) (fun _ _ _ h => h) (Or.inl ⟨by rfl, ?y13a14⟩) (by assumption) ?r13a14
          case y13a14 => (intro w hSw; obtain ⟨s0, s1⟩ := hSw; go_simp; (try with_reducible rfl))
          (try simp only [Act.put]); (try simp only [List.setIfInBounds_toArray]); (try simp only [List.set_cons_succ]); (try simp only [List.set_cons_zero])
          refine wpAnyH_take (i := 14) (oi := { dst := some 64, op := Go.Op.move (Go.Operand.tmp 63), type := 4, pos := "keep.go:29", after := #[{ on := 13, ground := Go.Ground.data }, { on := 11, ground := Go.Ground.chain }], guard := none }) (v := ?v14a15) rfl (by kernel_rfl) (by kernel_rfl) (by kernel_rfl) (fun _ _ _ h => h) (Or.inl ⟨by rfl, ?y14a15⟩) (by assumption) ?r14a15
          case y14a15 => (intro w hSw; obtain ⟨s0, s1⟩ := hSw; go_simp; (try with_reducible rfl))
          (try simp only [Act.put]); (try simp only [List.setIfInBounds_toArray]); (try simp only [List.set_cons_succ]); (try simp only [List.set_cons_zero])
          refine wpAnyH_take (i := 15) (oi := { dst := some 65, op := Go.Op.load 38 (Go.Operand.tmp 12), type := 38, pos := "keep.go:29", after := #[{ on := 14, ground := Go.Ground.guard }], guard := some (14, false) }) (v := undef) rfl (by kernel_rfl) (by kernel_rfl) (by kernel_rfl) (fun _ _ _ h => h) (Or.inr ⟨by kernel_rfl, rfl⟩) (by assumption) ?r15a16
          (try simp only [Act.put]); (try simp only [List.setIfInBounds_toArray]); (try simp only [List.set_cons_succ]); (try simp only [List.set_cons_zero])
          refine wpAnyH_take (i := 16) (oi := { dst := some 66, op := Go.Op.load 28 (Go.Operand.tmp 5), type := 28, pos := "keep.go:29", after := #[{ on := 14, ground := Go.Ground.guard }], guard := some (14, false) }) (v := undef) rfl (by kernel_rfl) (by kernel_rfl) (by kernel_rfl) (fun _ _ _ h => h) (Or.inr ⟨by kernel_rfl, rfl⟩) (by assumption) ?r16a17
          (try simp only [Act.put]); (try simp only [List.setIfInBounds_toArray]); (try simp only [List.set_cons_succ]); (try simp only [List.set_cons_zero])
          refine wpAnyH_take (i := 17) (oi := { dst := some 67, op := Go.Op.load 3 (Go.Operand.tmp 10), type := 3, pos := "keep.go:29", after := #[{ on := 14, ground := Go.Ground.guard }], guard := some (14, false) }) (v := undef) rfl (by kernel_rfl) (by kernel_rfl) (by kernel_rfl) (fun _ _ _ h => h) (Or.inr ⟨by kernel_rfl, rfl⟩) (by assumption) ?r17a18
          (try simp only [Act.put]); (try simp only [List.setIfInBounds_toArray]); (try simp only [List.set_cons_succ]); (try simp only [List.set_cons_zero])
          refine wpAnyH_take (i := 18) (oi := { dst := some 68, op := Go.Op.indexAddr 28 (Go.Operand.tmp 66) (Go.Operand.tmp 67), type := 0, pos := "keep.go:29", after := #[{ on := 16, ground := Go.Ground.data }, { on := 17, ground := Go.Ground.data }, { on := 14, ground := Go.Ground.guard }], guard := some (14, false) }) (v := undef) rfl (by kernel_rfl) (by kernel_rfl) (by kernel_rfl) (fun _ _ _ h => h) (Or.inr ⟨by kernel_rfl, rfl⟩) (by assumption) ?r18a19
          (try simp only [Act.put]); (try simp only [List.setIfInBounds_toArray]); (try simp only [List.set_cons_succ]); (try simp only [List.set_cons_zero])
          refine wpAnyH_take (i := 19) (oi := { dst := some 69, op := Go.Op.fieldAddr 41 (Go.Operand.tmp 68) 1, type := 0, pos := "keep.go:29", after := #[{ on := 18, ground := Go.Ground.data }, { on := 14, ground := Go.Ground.guard }], guard := some (14, false) }) (v := undef) rfl (by kernel_rfl) (by kernel_rfl) (by kernel_rfl) (fun _ _ _ h => h) (Or.inr ⟨by kernel_rfl, rfl⟩) (by assumption) ?r19a20
          (try simp only [Act.put]); (try simp only [List.setIfInBounds_toArray]); (try simp only [List.set_cons_succ]); (try simp only [List.set_cons_zero])
          refine wpAnyH_take (i := 20) (oi := { dst := some 70, op := Go.Op.load 38 (Go.Operand.tmp 69), type := 38, pos := "keep.go:29", after := #[{ on := 19, ground := Go.Ground.data }, { on := 14, ground := Go.Ground.guard }], guard := some (14, false) }) (v := undef) rfl (by kernel_rfl) (by kernel_rfl) (by kernel_rfl) (fun _ _ _ h => h) (Or.inr ⟨by kernel_rfl, rfl⟩) (by assumption) ?r20a21
          (try simp only [Act.put]); (try simp only [List.setIfInBounds_toArray]); (try simp only [List.set_cons_succ]); (try simp only [List.set_cons_zero])
          refine wpAnyH_take (i := 21) (oi := { dst := some 71, op := Go.Op.call { callee := Go.Callee.value (Go.Operand.func 10), args := #[Go.Operand.tmp 65, Go.Operand.tmp 70], argTypes := #[38, 38] }, type := 4, pos := "keep.go:29", after := #[{ on := 15, ground := Go.Ground.data }, { on := 20, ground := Go.Ground.data }, { on := 14, ground := Go.Ground.chain }, { on := 14, ground := Go.Ground.guard }], guard := some (14, false) }) (v := undef) rfl (by kernel_rfl) (by kernel_rfl) (by kernel_rfl) (fun _ _ _ h => h) (Or.inr ⟨by kernel_rfl, rfl⟩) (by assumption) ?r21a22
          (try simp only [Act.put]); (try simp only [List.setIfInBounds_toArray]); (try simp only [List.set_cons_succ]); (try simp only [List.set_cons_zero])
          refine wpAnyH_take (i := 22) (oi := { dst := some 72, op := Go.Op.unOp Go.UnOp.not 4 (Go.Operand.tmp 71), type := 4, pos := "keep.go:29", after := #[{ on := 21, ground := Go.Ground.data }, { on := 14, ground := Go.Ground.guard }], guard := some (14, false) }) (v := undef) rfl (by kernel_rfl) (by kernel_rfl) (by kernel_rfl) (fun _ _ _ h => h) (Or.inr ⟨by kernel_rfl, rfl⟩) (by assumption) ?r22a23
          (try simp only [Act.put]); (try simp only [List.setIfInBounds_toArray]); (try simp only [List.set_cons_succ]); (try simp only [List.set_cons_zero])
          refine wpAnyH_take (i := 23) (oi := { dst := some 73, op := Go.Op.pick (Go.Operand.tmp 64) (Go.Operand.const (Go.Value.bool true)) (Go.Operand.tmp 72), type := 4, pos := "keep.go:29", after := #[{ on := 14, ground := Go.Ground.data }, { on := 22, ground := Go.Ground.data }], guard := none }) (v := ?v23a24) rfl (by kernel_rfl) (by kernel_rfl) (by kernel_rfl) (fun _ _ _ h => h) (Or.inl ⟨by rfl, ?y23a24⟩) (by assumption) ?r23a24
          case y23a24 => (intro w hSw; obtain ⟨s0, s1⟩ := hSw; go_simp; (try with_reducible rfl))
          (try simp only [Act.put]); (try simp only [List.setIfInBounds_toArray]); (try simp only [List.set_cons_succ]); (try simp only [List.set_cons_zero])
          refine wpAnyH_done (by kernel_rfl) ?_ _
          have hxr' := hidM (And.intro qr zr)
          clear qr zr q10 qw
          have qr : V2.drew.cell? ⟨X + 1, 0, none⟩ = some (.bool false) := hxr'.out.1
          have zr : V2.drew.frozen? ⟨X + 1, 0, none⟩ = false := hxr'.out.2
          gi_wp2_with fail
          exact HRet.out _ gr_drew (NxW.len (by have := HL.out; have := HnN.out; simp; omega))
        · have hlt : L < n := by omega
          have h1 : er = 0 := Classical.byContradiction fun h => by have := HBad.out h; omega
          obtain ⟨e2, e3, e4⟩ := HNs.out h1
          have e5 := HN0.out (by omega)
          have hlN : L < (nodes D fs [] false).length := by omega
          obtain ⟨g0, wb, wc, fo', fc', ao', ca', hvo, hvc, hcell, hnode⟩ := e3.at_ hlN
          have hg2V : Gr W2 V2 := HMid.out.g2.trans HGV.out (fun _ _ h => h)
          have hqc : ∀ t u, (nodeCells (nodes D fs [] false)[L] wb wc fo' fc' ao' ca')[t]? = some u → V2.cell? ⟨g0, L * 10 + t, none⟩ = some u := fun t u h => hg2V.cell' (hcell t u h) id
          obtain ⟨q, hq⟩ : ∃ q, q = (nodes D fs [] false)[L].fld := ⟨_, rfl⟩
          obtain ⟨P, hP⟩ : ∃ P, P = (nodes D fs [] false)[L].path := ⟨_, rfl⟩
          have hIn : IntsAt V2 (some ⟨wb, 0, none⟩) P := by rw [hP]; exact (ints_of_own hnode.way).gr hg2V
          obtain ⟨Dk, hkd⟩ := hnode.kids
          have hkle := hnode.kle
          rw [← hq] at hkd hkle
          have hkd' : RowAt (fun b => b < V2.heap.size) V2 (Dk + x.d) fo' q.kids := ((hkd.kept fun b hb => hg2V.block b (by have := HS.out b hb; have := HG2.out.1.size; omega) id).mono fun b hb => by have := HS.out b hb; have := HG2.out.1.size; have := hg2V.size; omega).le (by omega)
          have hxd : RowAt (fun b => b < V2.heap.size) V2 (Dk + x.d) x.fo x.f.kids := (HAT.out.row.row.mono fun b hb => by have := HAT.out.bn; omega).le (by omega)
          have hxc : x.f.kids.length ≤ x.fc := HAT.out.row.le
          have HEf : Hid (∀ V3, Gr V2 V3 → Ans 10 #[.agg #[.string x.f.name, .bool x.f.nul, .int .i64 x.f.kind, .int .i64 x.f.width, .int .i64 x.f.id, .int .i64 x.f.index, .slice x.fo x.f.kids.length x.fc], .agg #[.string q.name, .bool q.nul, .int .i64 q.kind, .int .i64 q.width, .int .i64 q.id, .int .i64 q.index, .slice fo' q.kids.length fc']] (sameFd (Dk + x.d) x.f q) V3) := fun V3 g => eqField_any _ _ V3 x.f q x.fo fo' x.fc fc' (hxd.kept fun b hb => g.block b hb id) (hkd'.kept fun b hb => g.block b hb id) hxc hkle (fun b hb => by have := g.size; omega)
          have HEi : Hid (∀ V3, Gr V2 V3 → Calls Tryd.prog 9 #[.slice x.wo x.path.length x.wc, .slice (some ⟨wb, 0, none⟩) P.length wc] V3 fun e w' => ∃ r : Bool, e = .returned (.bool r) ∧ Gr V3 w' ∧ (r = false → x.path ≠ P)) := fun V3 g => eqInts_some _ _ _ _ x.path P HAT.out.deep V3 ((ints_of_own HAT.out.way).gr g) (hIn.gr g)
          have hCs : V2.cell? ⟨Y + 1, 0, none⟩ = some (.int .i64 (L : Int)) ∧ V2.cell? ⟨W2.heap.size, 0, none⟩ = some (.slice (some ⟨g0, 0, none⟩) n vc) ∧ V2.cell? ⟨g0, L * 10, none⟩ = some (.slice (some ⟨wb, 0, none⟩) P.length wc) ∧ V2.cell? ⟨g0, L * 10 + 1, none⟩ = some (.string q.name) ∧ V2.cell? ⟨g0, L * 10 + 2, none⟩ = some (.bool q.nul) ∧ V2.cell? ⟨g0, L * 10 + 3, none⟩ = some (.int .i64 q.kind) ∧ V2.cell? ⟨g0, L * 10 + 4, none⟩ = some (.int .i64 q.width) ∧ V2.cell? ⟨g0, L * 10 + 5, none⟩ = some (.int .i64 q.id) ∧ V2.cell? ⟨g0, L * 10 + 6, none⟩ = some (.int .i64 q.index) ∧ V2.cell? ⟨g0, L * 10 + 7, none⟩ = some (.slice fo' q.kids.length fc') ∧ V2.cell? ⟨Bx, 0, none⟩ = some (.string x.f.name) ∧ V2.cell? ⟨Bx, 1, none⟩ = some (.bool x.f.nul) ∧ V2.cell? ⟨Bx, 2, none⟩ = some (.int .i64 x.f.kind) ∧ V2.cell? ⟨Bx, 3, none⟩ = some (.int .i64 x.f.width) ∧ V2.cell? ⟨Bx, 4, none⟩ = some (.int .i64 x.f.id) ∧ V2.cell? ⟨Bx, 5, none⟩ = some (.int .i64 x.f.index) ∧ V2.cell? ⟨Bx, 6, none⟩ = some (.slice x.fo x.f.kids.length x.fc) := by
            subst hvo
            obtain ⟨s0, s1, s2, s3, s4, s5, s6⟩ := HBX.out.cells
            rw [hq, hP]
            exact ⟨q10, qw, hqc 0 _ rfl, hqc 1 _ rfl, hqc 2 _ rfl, hqc 3 _ rfl, hqc 4 _ rfl, hqc 5 _ rfl, hqc 6 _ rfl, hqc 7 _ rfl, s0, s1, s2, s3, s4, s5, s6⟩
          have HCs : Hid (∀ V3, Gr V2 V3 → V3.cell? ⟨Y + 1, 0, none⟩ = some (.int .i64 (L : Int)) ∧ V3.cell? ⟨W2.heap.size, 0, none⟩ = some (.slice (some ⟨g0, 0, none⟩) n vc) ∧ V3.cell? ⟨g0, L * 10, none⟩ = some (.slice (some ⟨wb, 0, none⟩) P.length wc) ∧ V3.cell? ⟨g0, L * 10 + 1, none⟩ = some (.string q.name) ∧ V3.cell? ⟨g0, L * 10 + 2, none⟩ = some (.bool q.nul) ∧ V3.cell? ⟨g0, L * 10 + 3, none⟩ = some (.int .i64 q.kind) ∧ V3.cell? ⟨g0, L * 10 + 4, none⟩ = some (.int .i64 q.width) ∧ V3.cell? ⟨g0, L * 10 + 5, none⟩ = some (.int .i64 q.id) ∧ V3.cell? ⟨g0, L * 10 + 6, none⟩ = some (.int .i64 q.index) ∧ V3.cell? ⟨g0, L * 10 + 7, none⟩ = some (.slice fo' q.kids.length fc') ∧ V3.cell? ⟨Bx, 0, none⟩ = some (.string x.f.name) ∧ V3.cell? ⟨Bx, 1, none⟩ = some (.bool x.f.nul) ∧ V3.cell? ⟨Bx, 2, none⟩ = some (.int .i64 x.f.kind) ∧ V3.cell? ⟨Bx, 3, none⟩ = some (.int .i64 x.f.width) ∧ V3.cell? ⟨Bx, 4, none⟩ = some (.int .i64 x.f.id) ∧ V3.cell? ⟨Bx, 5, none⟩ = some (.int .i64 x.f.index) ∧ V3.cell? ⟨Bx, 6, none⟩ = some (.slice x.fo x.f.kids.length x.fc)) := fun V3 g => by
            obtain ⟨s0, s1, s2, s3, s4, s5, s6, s7, s8, s9, t0, t1, t2, t3, t4, t5, t6⟩ := hCs
            exact ⟨g.cell' s0 id, g.cell' s1 id, g.cell' s2 id, g.cell' s3 id, g.cell' s4 id, g.cell' s5 id, g.cell' s6 id, g.cell' s7 id, g.cell' s8 id, g.cell' s9 id, g.cell' t0 id, g.cell' t1 id, g.cell' t2 id, g.cell' t3 id, g.cell' t4 id, g.cell' t5 id, g.cell' t6 id⟩
          have HNx : Hid (x.path ≠ P ∨ sameFd (Dk + x.d) x.f q = false → NxW N0 (xs ++ [x])) := fun h => by
            rintro ⟨ls, hp, hm⟩
            rw [e5] at hp
            obtain ⟨h1, h2, h3⟩ := hm.at_ hp (i := xs.length) (by simp)
            have hLL := HL.out
            subst hLL
            simp at h2 h3
            rcases h with h | h
            · exact h (by rw [hP]; exact h2)
            · rw [hq, ← h3, sameFd_refl] at h; cases h
          have HAgn : Hid (∀ V9, Gr W2 V9 → Calls Tryd.prog 11 #[.agg #[.slice fo fs.length cf, .slice no ns.length cn], .slice (some ⟨g0, 0, none⟩) n vc] V9 fun e w'' => e = .returned (.bool true) ∧ Gr V9 w'') := fun V9 g => by
            have hgw := HG2.out.1.trans g (fun _ _ h => h)
            have h := HAg.out V9 vo vc _ hgw rfl e4 (e3.gr g (fun b hb => by have := HS.out b hb; have := HG2.out.1.size; omega)) (by have h := HMb.out.gr hgw; rw [h1] at h; exact h)
            rw [hvo, ← e2] at h
            exact h
          have hltI : (L : Int) < (n : Int) := by omega
          have hltI2 : ¬ ((n : Int) ≤ (L : Int)) := by omega
          have hvcI : n ≤ vc := by rw [e2]; exact hvc
          have HNV := hidM hg2V
          clear hA hLn h1 e2 e3 e4 e5 hlN hvc hcell hnode hg2V hqc hq hP hIn hkd hkle hkd' hxd hxc q10 qw hCs
          have hHeld : (fun w' : World => w'.cell? ⟨Y + 1, 0, none⟩ = some (.int .i64 (L : Int)) ∧ w'.cell? ⟨W2.heap.size, 0, none⟩ = some (.slice (some ⟨g0, 0, none⟩) n vc) ∧ w'.cell? ⟨g0, L * 10, none⟩ = some (.slice (some ⟨wb, 0, none⟩) P.length wc) ∧ w'.cell? ⟨g0, L * 10 + 1, none⟩ = some (.string q.name) ∧ w'.cell? ⟨g0, L * 10 + 2, none⟩ = some (.bool q.nul) ∧ w'.cell? ⟨g0, L * 10 + 3, none⟩ = some (.int .i64 q.kind) ∧ w'.cell? ⟨g0, L * 10 + 4, none⟩ = some (.int .i64 q.width) ∧ w'.cell? ⟨g0, L * 10 + 5, none⟩ = some (.int .i64 q.id) ∧ w'.cell? ⟨g0, L * 10 + 6, none⟩ = some (.int .i64 q.index) ∧ w'.cell? ⟨g0, L * 10 + 7, none⟩ = some (.slice fo' q.kids.length fc') ∧ w'.cell? ⟨Bx, 0, none⟩ = some (.string x.f.name) ∧ w'.cell? ⟨Bx, 1, none⟩ = some (.bool x.f.nul) ∧ w'.cell? ⟨Bx, 2, none⟩ = some (.int .i64 x.f.kind) ∧ w'.cell? ⟨Bx, 3, none⟩ = some (.int .i64 x.f.width) ∧ w'.cell? ⟨Bx, 4, none⟩ = some (.int .i64 x.f.id) ∧ w'.cell? ⟨Bx, 5, none⟩ = some (.int .i64 x.f.index) ∧ w'.cell? ⟨Bx, 6, none⟩ = some (.slice x.fo x.f.kids.length x.fc)) V2.drew := HCs.out _ gr_drew
          refine region_round (S := fun w' => w'.cell? ⟨Y + 1, 0, none⟩ = some (.int .i64 (L : Int)) ∧ w'.cell? ⟨W2.heap.size, 0, none⟩ = some (.slice (some ⟨g0, 0, none⟩) n vc) ∧ w'.cell? ⟨g0, L * 10, none⟩ = some (.slice (some ⟨wb, 0, none⟩) P.length wc) ∧ w'.cell? ⟨g0, L * 10 + 1, none⟩ = some (.string q.name) ∧ w'.cell? ⟨g0, L * 10 + 2, none⟩ = some (.bool q.nul) ∧ w'.cell? ⟨g0, L * 10 + 3, none⟩ = some (.int .i64 q.kind) ∧ w'.cell? ⟨g0, L * 10 + 4, none⟩ = some (.int .i64 q.width) ∧ w'.cell? ⟨g0, L * 10 + 5, none⟩ = some (.int .i64 q.id) ∧ w'.cell? ⟨g0, L * 10 + 6, none⟩ = some (.int .i64 q.index) ∧ w'.cell? ⟨g0, L * 10 + 7, none⟩ = some (.slice fo' q.kids.length fc') ∧ w'.cell? ⟨Bx, 0, none⟩ = some (.string x.f.name) ∧ w'.cell? ⟨Bx, 1, none⟩ = some (.bool x.f.nul) ∧ w'.cell? ⟨Bx, 2, none⟩ = some (.int .i64 x.f.kind) ∧ w'.cell? ⟨Bx, 3, none⟩ = some (.int .i64 x.f.width) ∧ w'.cell? ⟨Bx, 4, none⟩ = some (.int .i64 x.f.id) ∧ w'.cell? ⟨Bx, 5, none⟩ = some (.int .i64 x.f.index) ∧ w'.cell? ⟨Bx, 6, none⟩ = some (.slice x.fo x.f.kids.length x.fc)) (by kernel_rfl) (noDefer_spec (by kernel_rfl)) (fun ⟨_, _, h⟩ => h) ?_
          refine wpAnyH_take (i := 0) (oi := { dst := some 50, op := Go.Op.load 3 (Go.Operand.tmp 10), type := 3, pos := "keep.go:29", after := #[], guard := none }) (v := ?v0b1) rfl (by kernel_rfl) (by kernel_rfl) (by kernel_rfl) (fun _ _ _ h => h) (Or.inl ⟨by rfl, ?y0b1⟩) (by assumption) ?r0b1
          case y0b1 => (intro w hSw; obtain ⟨s0, s1, s2, s3, s4, s5, s6, s7, s8, s9, t0, t1, t2, t3, t4, t5, t6⟩ := hSw; go_simp; (try with_reducible rfl))
          (try simp only [Act.put]); (try simp only [List.setIfInBounds_toArray]); (try simp only [List.set_cons_succ]); (try simp only [List.set_cons_zero])
          refine wpAnyH_take (i := 1) (oi := { dst := some 51, op := Go.Op.load 28 (Go.Operand.tmp 5), type := 28, pos := "keep.go:29", after := #[], guard := none }) (v := ?v1b2) rfl (by kernel_rfl) (by kernel_rfl) (by kernel_rfl) (fun _ _ _ h => h) (Or.inl ⟨by rfl, ?y1b2⟩) (by assumption) ?r1b2
          case y1b2 => (intro w hSw; obtain ⟨s0, s1, s2, s3, s4, s5, s6, s7, s8, s9, t0, t1, t2, t3, t4, t5, t6⟩ := hSw; go_simp; (try with_reducible rfl))
          (try simp only [Act.put]); (try simp only [List.setIfInBounds_toArray]); (try simp only [List.set_cons_succ]); (try simp only [List.set_cons_zero])
          refine wpAnyH_take (i := 2) (oi := { dst := some 52, op := Go.Op.call { callee := Go.Callee.builtin Go.Builtin.len, args := #[Go.Operand.tmp 51], argTypes := #[28] }, type := 3, pos := "keep.go:29", after := #[{ on := 1, ground := Go.Ground.data }], guard := none }) (v := ?v2b3) rfl (by kernel_rfl) (by kernel_rfl) (by kernel_rfl) (fun _ _ _ h => h) (Or.inl ⟨by rfl, ?y2b3⟩) (by assumption) ?r2b3
          case y2b3 => (intro w hSw; obtain ⟨s0, s1, s2, s3, s4, s5, s6, s7, s8, s9, t0, t1, t2, t3, t4, t5, t6⟩ := hSw; go_simp; (try with_reducible rfl))
          (try simp only [Act.put]); (try simp only [List.setIfInBounds_toArray]); (try simp only [List.set_cons_succ]); (try simp only [List.set_cons_zero])
          refine wpAnyH_take (i := 3) (oi := { dst := some 53, op := Go.Op.binOp Go.BinOp.geq 3 (Go.Operand.tmp 50) (Go.Operand.tmp 52) 3, type := 4, pos := "keep.go:29", after := #[{ on := 0, ground := Go.Ground.data }, { on := 2, ground := Go.Ground.data }], guard := none }) (v := ?v3b4) rfl (by kernel_rfl) (by kernel_rfl) (by kernel_rfl) (fun _ _ _ h => h) (Or.inl ⟨by rfl, ?y3b4⟩) (by assumption) ?r3b4
          case y3b4 => (intro w hSw; obtain ⟨s0, s1, s2, s3, s4, s5, s6, s7, s8, s9, t0, t1, t2, t3, t4, t5, t6⟩ := hSw; go_simp; (try with_reducible rfl))
          (try simp only [Act.put]); (try simp only [List.setIfInBounds_toArray]); (try simp only [List.set_cons_succ]); (try simp only [List.set_cons_zero])
          refine wpAnyH_take (i := 4) (oi := { dst := some 54, op := Go.Op.move (Go.Operand.tmp 53), type := 4, pos := "keep.go:29", after := #[{ on := 3, ground := Go.Ground.data }], guard := none }) (v := ?v4b5) rfl (by kernel_rfl) (by kernel_rfl) (by kernel_rfl) (fun _ _ _ h => h) (Or.inl ⟨by rfl, ?y4b5⟩) (by assumption) ?r4b5
          case y4b5 => (intro w hSw; obtain ⟨s0, s1, s2, s3, s4, s5, s6, s7, s8, s9, t0, t1, t2, t3, t4, t5, t6⟩ := hSw; go_simp; (try with_reducible rfl))
          (try simp only [Act.put]); (try simp only [List.setIfInBounds_toArray]); (try simp only [List.set_cons_succ]); (try simp only [List.set_cons_zero])
          refine wpAnyH_take (i := 5) (oi := { dst := some 55, op := Go.Op.move (Go.Operand.tmp 11), type := 26, pos := "keep.go:29", after := #[{ on := 4, ground := Go.Ground.guard }], guard := some (4, false) }) (v := ?v5b6) rfl (by kernel_rfl) (by kernel_rfl) (by kernel_rfl) (fun _ _ _ h => h) (Or.inl ⟨by rfl, ?y5b6⟩) (by assumption) ?r5b6
          case y5b6 => (intro w hSw; obtain ⟨s0, s1, s2, s3, s4, s5, s6, s7, s8, s9, t0, t1, t2, t3, t4, t5, t6⟩ := hSw; go_simp; (try with_reducible rfl))
          (try simp only [Act.put]); (try simp only [List.setIfInBounds_toArray]); (try simp only [List.set_cons_succ]); (try simp only [List.set_cons_zero])
          refine wpAnyH_take (i := 6) (oi := { dst := some 56, op := Go.Op.load 28 (Go.Operand.tmp 5), type := 28, pos := "keep.go:29", after := #[{ on := 4, ground := Go.Ground.guard }], guard := some (4, false) }) (v := ?v6b7) rfl (by kernel_rfl) (by kernel_rfl) (by kernel_rfl) (fun _ _ _ h => h) (Or.inl ⟨by rfl, ?y6b7⟩) (by assumption) ?r6b7
          case y6b7 => (intro w hSw; obtain ⟨s0, s1, s2, s3, s4, s5, s6, s7, s8, s9, t0, t1, t2, t3, t4, t5, t6⟩ := hSw; go_simp; (try with_reducible rfl))
          (try simp only [Act.put]); (try simp only [List.setIfInBounds_toArray]); (try simp only [List.set_cons_succ]); (try simp only [List.set_cons_zero])
          refine wpAnyH_take (i := 7) (oi := { dst := some 57, op := Go.Op.load 3 (Go.Operand.tmp 10), type := 3, pos := "keep.go:29", after := #[{ on := 4, ground := Go.Ground.guard }], guard := some (4, false) }) (v := ?v7b8) rfl (by kernel_rfl) (by kernel_rfl) (by kernel_rfl) (fun _ _ _ h => h) (Or.inl ⟨by rfl, ?y7b8⟩) (by assumption) ?r7b8
          case y7b8 => (intro w hSw; obtain ⟨s0, s1, s2, s3, s4, s5, s6, s7, s8, s9, t0, t1, t2, t3, t4, t5, t6⟩ := hSw; go_simp; (try with_reducible rfl))
          (try simp only [Act.put]); (try simp only [List.setIfInBounds_toArray]); (try simp only [List.set_cons_succ]); (try simp only [List.set_cons_zero])
          refine wpAnyH_take (i := 8) (oi := { dst := some 58, op := Go.Op.indexAddr 28 (Go.Operand.tmp 56) (Go.Operand.tmp 57), type := 0, pos := "keep.go:29", after := #[{ on := 6, ground := Go.Ground.data }, { on := 7, ground := Go.Ground.data }, { on := 4, ground := Go.Ground.guard }], guard := some (4, false) }) (v := ?v8b9) rfl (by kernel_rfl) (by kernel_rfl) (by kernel_rfl) (fun _ _ _ h => h) (Or.inl ⟨by rfl, ?y8b9⟩) (by assumption) ?r8b9
          case y8b9 => (intro w hSw; obtain ⟨s0, s1, s2, s3, s4, s5, s6, s7, s8, s9, t0, t1, t2, t3, t4, t5, t6⟩ := hSw; go_simp; (try with_reducible rfl))
          (try simp only [Act.put]); (try simp only [List.setIfInBounds_toArray]); (try simp only [List.set_cons_succ]); (try simp only [List.set_cons_zero])
          refine wpAnyH_take (i := 9) (oi := { dst := some 59, op := Go.Op.fieldAddr 41 (Go.Operand.tmp 58) 0, type := 0, pos := "keep.go:29", after := #[{ on := 8, ground := Go.Ground.data }, { on := 4, ground := Go.Ground.guard }], guard := some (4, false) }) (v := ?v9b10) rfl (by kernel_rfl) (by kernel_rfl) (by kernel_rfl) (fun _ _ _ h => h) (Or.inl ⟨by rfl, ?y9b10⟩) (by assumption) ?r9b10
          case y9b10 => (intro w hSw; obtain ⟨s0, s1, s2, s3, s4, s5, s6, s7, s8, s9, t0, t1, t2, t3, t4, t5, t6⟩ := hSw; go_simp; (try with_reducible rfl))
          (try simp only [Act.put]); (try simp only [List.setIfInBounds_toArray]); (try simp only [List.set_cons_succ]); (try simp only [List.set_cons_zero])
          refine wpAnyH_take (i := 10) (oi := { dst := some 60, op := Go.Op.load 26 (Go.Operand.tmp 59), type := 26, pos := "keep.go:29", after := #[{ on := 9, ground := Go.Ground.data }, { on := 4, ground := Go.Ground.guard }], guard := some (4, false) }) (v := ?v10b11) rfl (by kernel_rfl) (by kernel_rfl) (by kernel_rfl) (fun _ _ _ h => h) (Or.inl ⟨by rfl, ?y10b11⟩) (by assumption) ?r10b11
          case y10b11 => (intro w hSw; obtain ⟨s0, s1, s2, s3, s4, s5, s6, s7, s8, s9, t0, t1, t2, t3, t4, t5, t6⟩ := hSw; go_simp; (try with_reducible rfl))
          (try simp only [Act.put]); (try simp only [List.setIfInBounds_toArray]); (try simp only [List.set_cons_succ]); (try simp only [List.set_cons_zero])
          refine wpAnyH_ready (rs := [11]) (by kernel_rfl) (by simp) ?_
          refine AllReadyH.cons (o := { dst := some 61, op := Go.Op.call { callee := Go.Callee.value (Go.Operand.func 9), args := #[Go.Operand.tmp 55, Go.Operand.tmp 60], argTypes := #[26, 26] }, type := 4, pos := "keep.go:29", after := #[{ on := 5, ground := Go.Ground.data }, { on := 10, ground := Go.Ground.data }, { on := 4, ground := Go.Ground.chain }, { on := 4, ground := Go.Ground.guard }], guard := some (4, false) }) rfl (fun Kc hK => ?_) AllReadyH.nil
          go_simp
          go_at_call 9
          refine Calls.mono (HEi.out _ gr_drew) ?_
          rintro e' V3 ⟨r1, rfl, hg3, hr1⟩
          go_wp2_with fail
          refine hK.out _ _ (HCs.out _ (gr_drew.trans hg3 (fun _ _ h => h))) (fun hHeld => ?_)
          clear hK Kc
          (try simp only [Act.put]); (try simp only [List.setIfInBounds_toArray]); (try simp only [List.set_cons_succ]); (try simp only [List.set_cons_zero])
          cases r1 with
          | false =>
            refine wpAnyH_take (i := 12) (oi := { dst := some 62, op := Go.Op.unOp Go.UnOp.not 4 (Go.Operand.tmp 61), type := 4, pos := "keep.go:29", after := #[{ on := 11, ground := Go.Ground.data }, { on := 4, ground := Go.Ground.guard }], guard := some (4, false) }) (v := ?v12c1) rfl (by kernel_rfl) (by kernel_rfl) (by kernel_rfl) (fun _ _ _ h => h) (Or.inl ⟨by rfl, ?y12c1⟩) (by assumption) ?r12c1
            case y12c1 => (intro w hSw; obtain ⟨s0, s1, s2, s3, s4, s5, s6, s7, s8, s9, t0, t1, t2, t3, t4, t5, t6⟩ := hSw; go_simp; (try with_reducible rfl))
            (try simp only [Act.put]); (try simp only [List.setIfInBounds_toArray]); (try simp only [List.set_cons_succ]); (try simp only [List.set_cons_zero])
            refine wpAnyH_take (i := 13) (oi := { dst := some 63, op := Go.Op.pick (Go.Operand.tmp 54) (Go.Operand.const (Go.Value.bool true)) (Go.Operand.tmp 62), type := 4, pos := "keep.go:29", after := #[{ on := 4, ground := Go.Ground.data }, { on := 12, ground := Go.Ground.data }], guard := none }) (v := ?v13c2) rfl (by kernel_rfl) (by kernel_rfl) (by kernel_rfl) (fun _ _ _ h => h) (Or.inl ⟨by rfl, ?y13c2⟩) (by assumption) ?r13c2
            case y13c2 => (intro w hSw; obtain ⟨s0, s1, s2, s3, s4, s5, s6, s7, s8, s9, t0, t1, t2, t3, t4, t5, t6⟩ := hSw; go_simp; (try with_reducible rfl))
            (try simp only [Act.put]); (try simp only [List.setIfInBounds_toArray]); (try simp only [List.set_cons_succ]); (try simp only [List.set_cons_zero])
            refine wpAnyH_take (i := 14) (oi := { dst := some 64, op := Go.Op.move (Go.Operand.tmp 63), type := 4, pos := "keep.go:29", after := #[{ on := 13, ground := Go.Ground.data }, { on := 11, ground := Go.Ground.chain }], guard := none }) (v := ?v14c3) rfl (by kernel_rfl) (by kernel_rfl) (by kernel_rfl) (fun _ _ _ h => h) (Or.inl ⟨by rfl, ?y14c3⟩) (by assumption) ?r14c3
            case y14c3 => (intro w hSw; obtain ⟨s0, s1, s2, s3, s4, s5, s6, s7, s8, s9, t0, t1, t2, t3, t4, t5, t6⟩ := hSw; go_simp; (try with_reducible rfl))
            (try simp only [Act.put]); (try simp only [List.setIfInBounds_toArray]); (try simp only [List.set_cons_succ]); (try simp only [List.set_cons_zero])
            refine wpAnyH_take (i := 15) (oi := { dst := some 65, op := Go.Op.load 38 (Go.Operand.tmp 12), type := 38, pos := "keep.go:29", after := #[{ on := 14, ground := Go.Ground.guard }], guard := some (14, false) }) (v := undef) rfl (by kernel_rfl) (by kernel_rfl) (by kernel_rfl) (fun _ _ _ h => h) (Or.inr ⟨by kernel_rfl, rfl⟩) (by assumption) ?r15c4
            (try simp only [Act.put]); (try simp only [List.setIfInBounds_toArray]); (try simp only [List.set_cons_succ]); (try simp only [List.set_cons_zero])
            refine wpAnyH_take (i := 16) (oi := { dst := some 66, op := Go.Op.load 28 (Go.Operand.tmp 5), type := 28, pos := "keep.go:29", after := #[{ on := 14, ground := Go.Ground.guard }], guard := some (14, false) }) (v := undef) rfl (by kernel_rfl) (by kernel_rfl) (by kernel_rfl) (fun _ _ _ h => h) (Or.inr ⟨by kernel_rfl, rfl⟩) (by assumption) ?r16c5
            (try simp only [Act.put]); (try simp only [List.setIfInBounds_toArray]); (try simp only [List.set_cons_succ]); (try simp only [List.set_cons_zero])
            refine wpAnyH_take (i := 17) (oi := { dst := some 67, op := Go.Op.load 3 (Go.Operand.tmp 10), type := 3, pos := "keep.go:29", after := #[{ on := 14, ground := Go.Ground.guard }], guard := some (14, false) }) (v := undef) rfl (by kernel_rfl) (by kernel_rfl) (by kernel_rfl) (fun _ _ _ h => h) (Or.inr ⟨by kernel_rfl, rfl⟩) (by assumption) ?r17c6
            (try simp only [Act.put]); (try simp only [List.setIfInBounds_toArray]); (try simp only [List.set_cons_succ]); (try simp only [List.set_cons_zero])
            refine wpAnyH_take (i := 18) (oi := { dst := some 68, op := Go.Op.indexAddr 28 (Go.Operand.tmp 66) (Go.Operand.tmp 67), type := 0, pos := "keep.go:29", after := #[{ on := 16, ground := Go.Ground.data }, { on := 17, ground := Go.Ground.data }, { on := 14, ground := Go.Ground.guard }], guard := some (14, false) }) (v := undef) rfl (by kernel_rfl) (by kernel_rfl) (by kernel_rfl) (fun _ _ _ h => h) (Or.inr ⟨by kernel_rfl, rfl⟩) (by assumption) ?r18c7
            (try simp only [Act.put]); (try simp only [List.setIfInBounds_toArray]); (try simp only [List.set_cons_succ]); (try simp only [List.set_cons_zero])
            refine wpAnyH_take (i := 19) (oi := { dst := some 69, op := Go.Op.fieldAddr 41 (Go.Operand.tmp 68) 1, type := 0, pos := "keep.go:29", after := #[{ on := 18, ground := Go.Ground.data }, { on := 14, ground := Go.Ground.guard }], guard := some (14, false) }) (v := undef) rfl (by kernel_rfl) (by kernel_rfl) (by kernel_rfl) (fun _ _ _ h => h) (Or.inr ⟨by kernel_rfl, rfl⟩) (by assumption) ?r19c8
            (try simp only [Act.put]); (try simp only [List.setIfInBounds_toArray]); (try simp only [List.set_cons_succ]); (try simp only [List.set_cons_zero])
            refine wpAnyH_take (i := 20) (oi := { dst := some 70, op := Go.Op.load 38 (Go.Operand.tmp 69), type := 38, pos := "keep.go:29", after := #[{ on := 19, ground := Go.Ground.data }, { on := 14, ground := Go.Ground.guard }], guard := some (14, false) }) (v := undef) rfl (by kernel_rfl) (by kernel_rfl) (by kernel_rfl) (fun _ _ _ h => h) (Or.inr ⟨by kernel_rfl, rfl⟩) (by assumption) ?r20c9
            (try simp only [Act.put]); (try simp only [List.setIfInBounds_toArray]); (try simp only [List.set_cons_succ]); (try simp only [List.set_cons_zero])
            refine wpAnyH_take (i := 21) (oi := { dst := some 71, op := Go.Op.call { callee := Go.Callee.value (Go.Operand.func 10), args := #[Go.Operand.tmp 65, Go.Operand.tmp 70], argTypes := #[38, 38] }, type := 4, pos := "keep.go:29", after := #[{ on := 15, ground := Go.Ground.data }, { on := 20, ground := Go.Ground.data }, { on := 14, ground := Go.Ground.chain }, { on := 14, ground := Go.Ground.guard }], guard := some (14, false) }) (v := undef) rfl (by kernel_rfl) (by kernel_rfl) (by kernel_rfl) (fun _ _ _ h => h) (Or.inr ⟨by kernel_rfl, rfl⟩) (by assumption) ?r21c10
            (try simp only [Act.put]); (try simp only [List.setIfInBounds_toArray]); (try simp only [List.set_cons_succ]); (try simp only [List.set_cons_zero])
            refine wpAnyH_take (i := 22) (oi := { dst := some 72, op := Go.Op.unOp Go.UnOp.not 4 (Go.Operand.tmp 71), type := 4, pos := "keep.go:29", after := #[{ on := 21, ground := Go.Ground.data }, { on := 14, ground := Go.Ground.guard }], guard := some (14, false) }) (v := undef) rfl (by kernel_rfl) (by kernel_rfl) (by kernel_rfl) (fun _ _ _ h => h) (Or.inr ⟨by kernel_rfl, rfl⟩) (by assumption) ?r22c11
            (try simp only [Act.put]); (try simp only [List.setIfInBounds_toArray]); (try simp only [List.set_cons_succ]); (try simp only [List.set_cons_zero])
            refine wpAnyH_take (i := 23) (oi := { dst := some 73, op := Go.Op.pick (Go.Operand.tmp 64) (Go.Operand.const (Go.Value.bool true)) (Go.Operand.tmp 72), type := 4, pos := "keep.go:29", after := #[{ on := 14, ground := Go.Ground.data }, { on := 22, ground := Go.Ground.data }], guard := none }) (v := ?v23c12) rfl (by kernel_rfl) (by kernel_rfl) (by kernel_rfl) (fun _ _ _ h => h) (Or.inl ⟨by rfl, ?y23c12⟩) (by assumption) ?r23c12
            case y23c12 => (intro w hSw; obtain ⟨s0, s1, s2, s3, s4, s5, s6, s7, s8, s9, t0, t1, t2, t3, t4, t5, t6⟩ := hSw; go_simp; (try with_reducible rfl))
            (try simp only [Act.put]); (try simp only [List.setIfInBounds_toArray]); (try simp only [List.set_cons_succ]); (try simp only [List.set_cons_zero])
            refine wpAnyH_done (by kernel_rfl) ?_ _
            have hx3 := ((gr_drew.trans hg3 (fun _ _ h => h)).block _ (lt_of_heap hxr) id).trans hxr
            have qr' := cell1 hx3
            have zr' := frz hx3 0
            have HG3 := hidM (gr_drew.trans hg3 (fun _ _ h => h))
            clear hx3 qr zr
            gi_wp2_with fail
            exact HRet.out _ HG3.out (HNx.out (.inl (hr1 (by trivial))))
          | true =>
            refine wpAnyH_take (i := 12) (oi := { dst := some 62, op := Go.Op.unOp Go.UnOp.not 4 (Go.Operand.tmp 61), type := 4, pos := "keep.go:29", after := #[{ on := 11, ground := Go.Ground.data }, { on := 4, ground := Go.Ground.guard }], guard := some (4, false) }) (v := ?v12d1) rfl (by kernel_rfl) (by kernel_rfl) (by kernel_rfl) (fun _ _ _ h => h) (Or.inl ⟨by rfl, ?y12d1⟩) (by assumption) ?r12d1
            case y12d1 => (intro w hSw; obtain ⟨s0, s1, s2, s3, s4, s5, s6, s7, s8, s9, t0, t1, t2, t3, t4, t5, t6⟩ := hSw; go_simp; (try with_reducible rfl))
            (try simp only [Act.put]); (try simp only [List.setIfInBounds_toArray]); (try simp only [List.set_cons_succ]); (try simp only [List.set_cons_zero])
            refine wpAnyH_take (i := 13) (oi := { dst := some 63, op := Go.Op.pick (Go.Operand.tmp 54) (Go.Operand.const (Go.Value.bool true)) (Go.Operand.tmp 62), type := 4, pos := "keep.go:29", after := #[{ on := 4, ground := Go.Ground.data }, { on := 12, ground := Go.Ground.data }], guard := none }) (v := ?v13d2) rfl (by kernel_rfl) (by kernel_rfl) (by kernel_rfl) (fun _ _ _ h => h) (Or.inl ⟨by rfl, ?y13d2⟩) (by assumption) ?r13d2
            case y13d2 => (intro w hSw; obtain ⟨s0, s1, s2, s3, s4, s5, s6, s7, s8, s9, t0, t1, t2, t3, t4, t5, t6⟩ := hSw; go_simp; (try with_reducible rfl))
            (try simp only [Act.put]); (try simp only [List.setIfInBounds_toArray]); (try simp only [List.set_cons_succ]); (try simp only [List.set_cons_zero])
            refine wpAnyH_take (i := 14) (oi := { dst := some 64, op := Go.Op.move (Go.Operand.tmp 63), type := 4, pos := "keep.go:29", after := #[{ on := 13, ground := Go.Ground.data }, { on := 11, ground := Go.Ground.chain }], guard := none }) (v := ?v14d3) rfl (by kernel_rfl) (by kernel_rfl) (by kernel_rfl) (fun _ _ _ h => h) (Or.inl ⟨by rfl, ?y14d3⟩) (by assumption) ?r14d3
            case y14d3 => (intro w hSw; obtain ⟨s0, s1, s2, s3, s4, s5, s6, s7, s8, s9, t0, t1, t2, t3, t4, t5, t6⟩ := hSw; go_simp; (try with_reducible rfl))
            (try simp only [Act.put]); (try simp only [List.setIfInBounds_toArray]); (try simp only [List.set_cons_succ]); (try simp only [List.set_cons_zero])
            refine wpAnyH_take (i := 15) (oi := { dst := some 65, op := Go.Op.load 38 (Go.Operand.tmp 12), type := 38, pos := "keep.go:29", after := #[{ on := 14, ground := Go.Ground.guard }], guard := some (14, false) }) (v := ?v15d4) rfl (by kernel_rfl) (by kernel_rfl) (by kernel_rfl) (fun _ _ _ h => h) (Or.inl ⟨by rfl, ?y15d4⟩) (by assumption) ?r15d4
            case y15d4 => (intro w hSw; obtain ⟨s0, s1, s2, s3, s4, s5, s6, s7, s8, s9, t0, t1, t2, t3, t4, t5, t6⟩ := hSw; go_simp; (try with_reducible rfl))
            (try simp only [Act.put]); (try simp only [List.setIfInBounds_toArray]); (try simp only [List.set_cons_succ]); (try simp only [List.set_cons_zero])
            refine wpAnyH_take (i := 16) (oi := { dst := some 66, op := Go.Op.load 28 (Go.Operand.tmp 5), type := 28, pos := "keep.go:29", after := #[{ on := 14, ground := Go.Ground.guard }], guard := some (14, false) }) (v := ?v16d5) rfl (by kernel_rfl) (by kernel_rfl) (by kernel_rfl) (fun _ _ _ h => h) (Or.inl ⟨by rfl, ?y16d5⟩) (by assumption) ?r16d5
            case y16d5 => (intro w hSw; obtain ⟨s0, s1, s2, s3, s4, s5, s6, s7, s8, s9, t0, t1, t2, t3, t4, t5, t6⟩ := hSw; go_simp; (try with_reducible rfl))
            (try simp only [Act.put]); (try simp only [List.setIfInBounds_toArray]); (try simp only [List.set_cons_succ]); (try simp only [List.set_cons_zero])
            refine wpAnyH_take (i := 17) (oi := { dst := some 67, op := Go.Op.load 3 (Go.Operand.tmp 10), type := 3, pos := "keep.go:29", after := #[{ on := 14, ground := Go.Ground.guard }], guard := some (14, false) }) (v := ?v17d6) rfl (by kernel_rfl) (by kernel_rfl) (by kernel_rfl) (fun _ _ _ h => h) (Or.inl ⟨by rfl, ?y17d6⟩) (by assumption) ?r17d6
            case y17d6 => (intro w hSw; obtain ⟨s0, s1, s2, s3, s4, s5, s6, s7, s8, s9, t0, t1, t2, t3, t4, t5, t6⟩ := hSw; go_simp; (try with_reducible rfl))
            (try simp only [Act.put]); (try simp only [List.setIfInBounds_toArray]); (try simp only [List.set_cons_succ]); (try simp only [List.set_cons_zero])
            refine wpAnyH_take (i := 18) (oi := { dst := some 68, op := Go.Op.indexAddr 28 (Go.Operand.tmp 66) (Go.Operand.tmp 67), type := 0, pos := "keep.go:29", after := #[{ on := 16, ground := Go.Ground.data }, { on := 17, ground := Go.Ground.data }, { on := 14, ground := Go.Ground.guard }], guard := some (14, false) }) (v := ?v18d7) rfl (by kernel_rfl) (by kernel_rfl) (by kernel_rfl) (fun _ _ _ h => h) (Or.inl ⟨by rfl, ?y18d7⟩) (by assumption) ?r18d7
            case y18d7 => (intro w hSw; obtain ⟨s0, s1, s2, s3, s4, s5, s6, s7, s8, s9, t0, t1, t2, t3, t4, t5, t6⟩ := hSw; go_simp; (try with_reducible rfl))
            (try simp only [Act.put]); (try simp only [List.setIfInBounds_toArray]); (try simp only [List.set_cons_succ]); (try simp only [List.set_cons_zero])
            refine wpAnyH_take (i := 19) (oi := { dst := some 69, op := Go.Op.fieldAddr 41 (Go.Operand.tmp 68) 1, type := 0, pos := "keep.go:29", after := #[{ on := 18, ground := Go.Ground.data }, { on := 14, ground := Go.Ground.guard }], guard := some (14, false) }) (v := ?v19d8) rfl (by kernel_rfl) (by kernel_rfl) (by kernel_rfl) (fun _ _ _ h => h) (Or.inl ⟨by rfl, ?y19d8⟩) (by assumption) ?r19d8
            case y19d8 => (intro w hSw; obtain ⟨s0, s1, s2, s3, s4, s5, s6, s7, s8, s9, t0, t1, t2, t3, t4, t5, t6⟩ := hSw; go_simp; (try with_reducible rfl))
            (try simp only [Act.put]); (try simp only [List.setIfInBounds_toArray]); (try simp only [List.set_cons_succ]); (try simp only [List.set_cons_zero])
            refine wpAnyH_take (i := 20) (oi := { dst := some 70, op := Go.Op.load 38 (Go.Operand.tmp 69), type := 38, pos := "keep.go:29", after := #[{ on := 19, ground := Go.Ground.data }, { on := 14, ground := Go.Ground.guard }], guard := some (14, false) }) (v := ?v20d9) rfl (by kernel_rfl) (by kernel_rfl) (by kernel_rfl) (fun _ _ _ h => h) (Or.inl ⟨by rfl, ?y20d9⟩) (by assumption) ?r20d9
            case y20d9 => (intro w hSw; obtain ⟨s0, s1, s2, s3, s4, s5, s6, s7, s8, s9, t0, t1, t2, t3, t4, t5, t6⟩ := hSw; go_simp; (try with_reducible rfl))
            (try simp only [Act.put]); (try simp only [List.setIfInBounds_toArray]); (try simp only [List.set_cons_succ]); (try simp only [List.set_cons_zero])
            refine wpAnyH_ready (rs := [21]) (by kernel_rfl) (by simp) ?_
            refine AllReadyH.cons (o := { dst := some 71, op := Go.Op.call { callee := Go.Callee.value (Go.Operand.func 10), args := #[Go.Operand.tmp 65, Go.Operand.tmp 70], argTypes := #[38, 38] }, type := 4, pos := "keep.go:29", after := #[{ on := 15, ground := Go.Ground.data }, { on := 20, ground := Go.Ground.data }, { on := 14, ground := Go.Ground.chain }, { on := 14, ground := Go.Ground.guard }], guard := some (14, false) }) rfl (fun Kc hK => ?_) AllReadyH.nil
            go_simp
            go_at_call 10
            refine Calls.mono (HEf.out _ (gr_drew.trans hg3 (fun _ _ h => h)) _ (Keeps.refl _ _)) ?_
            rintro e' V4 ⟨rfl, hg4⟩
            go_wp2_with fail
            refine hK.out _ _ (HCs.out _ ((gr_drew.trans hg3 (fun _ _ h => h)).trans hg4 (fun _ _ h => h))) (fun hHeld => ?_)
            clear hK Kc
            (try simp only [Act.put]); (try simp only [List.setIfInBounds_toArray]); (try simp only [List.set_cons_succ]); (try simp only [List.set_cons_zero])
            have hg24 : Gr V2 V4 := (gr_drew.trans hg3 (fun _ _ h => h)).trans hg4 (fun _ _ h => h)
            clear hg3 hg4 hr1
            rcases Bool.eq_false_or_eq_true (sameFd (Dk + x.d) x.f q) with hsf | hsf
            · rw [hsf]
              refine wpAnyH_take (i := 22) (oi := { dst := some 72, op := Go.Op.unOp Go.UnOp.not 4 (Go.Operand.tmp 71), type := 4, pos := "keep.go:29", after := #[{ on := 21, ground := Go.Ground.data }, { on := 14, ground := Go.Ground.guard }], guard := some (14, false) }) (v := ?v22e1) rfl (by kernel_rfl) (by kernel_rfl) (by kernel_rfl) (fun _ _ _ h => h) (Or.inl ⟨by rfl, ?y22e1⟩) (by assumption) ?r22e1
              case y22e1 => (intro w hSw; obtain ⟨s0, s1, s2, s3, s4, s5, s6, s7, s8, s9, t0, t1, t2, t3, t4, t5, t6⟩ := hSw; go_simp; (try with_reducible rfl))
              (try simp only [Act.put]); (try simp only [List.setIfInBounds_toArray]); (try simp only [List.set_cons_succ]); (try simp only [List.set_cons_zero])
              refine wpAnyH_take (i := 23) (oi := { dst := some 73, op := Go.Op.pick (Go.Operand.tmp 64) (Go.Operand.const (Go.Value.bool true)) (Go.Operand.tmp 72), type := 4, pos := "keep.go:29", after := #[{ on := 14, ground := Go.Ground.data }, { on := 22, ground := Go.Ground.data }], guard := none }) (v := ?v23e2) rfl (by kernel_rfl) (by kernel_rfl) (by kernel_rfl) (fun _ _ _ h => h) (Or.inl ⟨by rfl, ?y23e2⟩) (by assumption) ?r23e2
              case y23e2 => (intro w hSw; obtain ⟨s0, s1, s2, s3, s4, s5, s6, s7, s8, s9, t0, t1, t2, t3, t4, t5, t6⟩ := hSw; go_simp; (try with_reducible rfl))
              (try simp only [Act.put]); (try simp only [List.setIfInBounds_toArray]); (try simp only [List.set_cons_succ]); (try simp only [List.set_cons_zero])
              refine wpAnyH_done (by kernel_rfl) ?_ _
              have hat4 : AtW (Y + 4) O M x V4 := HAT.out.kept hg24 (fun b t => t.elim)
              have HE0 : Hid (∃ ws, El V4 x ws x.f.kids ∧ Keeps V4 V4 (fun b => x.lo ≤ b ∧ b < x.hi)) := ⟨ints x.path, ⟨hat4.way, hat4.wn, hat4.row, rfl, hat4.bn.2⟩, Keeps.refl _ _⟩
              obtain ⟨gw, hgw⟩ := own_some hat4.way (List.length_pos_iff.2 hat4.ne)
              have hwv : wayV x = .slice (some ⟨gw, 0, none⟩) x.path.length x.wc := by unfold wayV; rw [hgw]
              obtain ⟨p, hp⟩ : ∃ p, p = x.path.length := ⟨_, rfl⟩
              have hpc : p ≤ x.wc := by
                have h := hat4.way
                rw [hgw] at h
                rcases h.2 with ⟨q, _⟩ | ⟨g, c, cur, q, _, _, h3, _⟩
                · cases q
                · cases q; rw [hp]; exact h3
              have hpm : p ≤ 1000000000000 := by rw [hp]; exact hat4.deep
              rw [hgw, ← hp]
              have HWv := hidM hwv
              have HPl := hidM hp
              have HG24 := hidM hg24
              clear hat4 hgw hwv hp hg24 hsf hHeld qr zr
              gi_wp2_with fail
              gi_loopw [76] (fun q wr => ∃ t : Nat, t ≤ p ∧ q = .int .i64 (t : Int) ∧ Hid (∃ ws, El wr x ws x.f.kids ∧ Keeps V4 wr (fun b => x.lo ≤ b ∧ b < x.hi))) (fun q _ => p - (intOf q).toNat)
              case atStart => exact ⟨0, by omega, rfl, HE0.out⟩
              case round =>
                obtain ⟨t, ht, rfl, HT⟩ := hrel
                by_cases htp : t < p
                · obtain ⟨ws, he, hk⟩ := HT.out
                  have hway := he.way
                  rw [HWv.out] at hway
                  have hpl := HPl.out
                  have hwl : t < ws.length := by have := hway.1; omega
                  have ct : wr.cell? ⟨gw, t, none⟩ = some ws[t] := by
                    have h := hway.cells (g := gw) rfl t ws[t] (List.getElem?_eq_getElem hwl)
                    simpa [Addr.add_lit] using h
                  have cf := own_frz hway t
                  have HNw : Hid (∃ ws, El (wr.setCell ⟨gw, t, none⟩ (.int .i64 (-9))) x ws x.f.kids ∧ Keeps V4 (wr.setCell ⟨gw, t, none⟩ (.int .i64 (-9))) (fun b => x.lo ≤ b ∧ b < x.hi)) := by
                    obtain ⟨h1, h2⟩ := he.write (t := t) HWv.out (.int .i64 (-9))
                    exact ⟨_, h1, hk.trans h2 (fun _ _ h => h)⟩
                  have htI : (t : Int) < (p : Int) := by omega
                  clear he hk hway hpl
                  gi_wp2_with fail
                  exact ⟨⟨t + 1, by omega, by simp, HNw.out⟩, by simp [intOf]; omega⟩
                · have htp' : t = p := by omega
                  subst htp'
                  clear ht htp
                  obtain ⟨ws, he, hk⟩ := HT.out
                  have hkV : Keeps V2 wr (fun b => x.lo ≤ b ∧ b < x.hi) := Keeps.trans (HG24.out.mono fun _ _ h => h.elim) hk (fun _ _ h => h)
                  have hbx := (hkV.block Bx (lt_of_heap HBX.out) (by have := HBB.out; omega)).trans HBX.out
                  have c6 : wr.cell? ⟨Bx, 6, none⟩ = some (.slice x.fo x.f.kids.length x.fc) := (show Sx7 Bx x wr from hbx).cells.2.2.2.2.2.2
                  have HSp := hidM (spoil_any ⟨#[109, 97, 114, 107]⟩ x.d wr x.lo x.mid x.fo x.fc x.f.kids he.row (by have := he.bn; omega))
                  have HKV := hidM hkV
                  clear he hk hkV hbx
                  have HFin : Hid (∀ Vf, Keeps V2 Vf (fun b => b = Y + 1 ∨ (x.lo ≤ b ∧ b < x.hi)) → Vf.heap[Y + 1]? = some (.cells #[.int .i64 ((L : Int) + 1)] 3 (0, 0)) → Left Sk O V6.heap.size V2 Vf ∧ ((L : Int) + 1 ≤ st → WkI V6 Y n st (xs ++ [x]) Vf) ∧ (st < (L : Int) + 1 → WkO V6 Y n st N0 O (.exit 2) (xs ++ [x]) Vf)) := fun Vf k hb => by
                    have hz := HZ6.out
                    have hL := HL.out
                    have hbn := HAT.out.bn
                    have hlen : ((xs ++ [x]).length : Int) = (L : Int) + 1 := by rw [hL]; simp
                    have hlen' : (xs ++ [x]).length = L + 1 := by rw [hL]; simp
                    have hk6 : Keeps V6 Vf (fun b => b = Y + 1) := HHi.out.k.trans k (fun j hj e => by omega)
                    have hst := HHi.out.st
                    rw [← hL] at hst
                    refine ⟨HLeft.out _ _ k (fun b h => .inr h), fun h => ⟨hk6, by rw [hlen]; exact hb, by omega, fun _ => by omega⟩, fun h => .inr ⟨rfl, ⟨fun b h => (HO4.out b h).1, hk6, by rw [hlen]; exact hb, by omega, by omega, fun _ => by omega⟩⟩⟩
                  gi_wp2_with fail
                  refine ⟨trivial, ?_⟩
                  refine (CallsIn.inRound _ (callsIn_wide.2 HSp.out)).mono ?_
                  rintro e W8 ⟨rfl, k8, -⟩
                  have kV8 : Keeps V2 W8 (fun b => x.lo ≤ b ∧ b < x.hi) := HKV.out.trans k8 (fun _ _ h => by have := HAT.out.bn; omega)
                  have hbn := HAT.out.bn
                  have hb8 := (kV8.block _ (lt_of_heap HXS.out.2.2.2.2) (by omega)).trans HXS.out.2.2.2.2
                  have u10 := cell1 hb8
                  have uf := frz hb8 0
                  obtain ⟨V9, hV9⟩ : ∃ V9, W8.setCell ⟨Y + 1, 0, none⟩ (.int .i64 ((L : Int) + 1)) = V9 := ⟨_, rfl⟩
                  have k9 : Keeps W8 V9 (fun b => b = Y + 1) := by rw [← hV9]; exact keep1 (j := 0) (Keeps.refl W8 (fun b => b = Y + 1)) _
                  have hb9 : V9.heap[Y + 1]? = some (.cells #[.int .i64 ((L : Int) + 1)] 3 (0, 0)) := by rw [← hV9, setc (j := 0) hb8]; simp
                  have kV9 : Keeps V2 V9 (fun b => b = Y + 1 ∨ (x.lo ≤ b ∧ b < x.hi)) := (kV8.mono fun _ _ h => .inr h).trans k9 (fun _ _ h => .inl h)
                  have hgW : Gr W2 V9 := HNV.out.trans kV9 (fun j hj e => by have := HMid.out.g2.size; have := HY5.out; omega)
                  have hlow : ∀ b, b < Y + 1 → V9.heap[b]? = V2.heap[b]? := fun b h => kV9.block b (by have := lt_of_heap HXS.out.2.2.2.2; omega) (by omega)
                  have hXY : X + 1 < Y := by have := HMid.out.lt; have := HMid.out.g2.size; have := HY5.out; omega
                  have hWY : W2.heap.size < Y := by have := lt_of_heap HMid.out.xw; have := HY5.out; omega
                  obtain ⟨a0, a1⟩ := cell2 ((hlow X (by omega)).trans HXS.out.1)
                  have aw := cell1 ((hlow _ (by omega)).trans HXS.out.2.2.1)
                  have at_ := cell1 ((hlow Y (by omega)).trans HXS.out.2.2.2.1)
                  have a10 := cell1 hb9
                  have HK9 := hidM (And.intro kV9 (And.intro hb9 hgW))
                  have hnb := Hn256.out
                  have hvo' : vo = some ⟨g0, 0, none⟩ := hvo
                  rw [hvo'] at aw
                  clear k8 kV8 hbn hb8 k9 hb9 kV9 hgW hlow hXY hWY c6 HSp
                  by_cases hL1 : L = 1
                  · have h2b : (((L : Int) + 1) == 2) = true := by simp [hL1]
                    have HAc := hidM (HAgn.out V9 HK9.out.2.2)
                    clear hL1
                    gi_wp2_with fail
                    refine ⟨trivial, ?_⟩
                    refine (CallsIn.inRound _ (callsIn_wide.2 HAc.out)).mono ?_
                    rintro e V10 ⟨rfl, g10⟩
                    have d10 := g10.cell' a10 id
                    have dt := g10.cell' at_ id
                    have HF := hidM (HFin.out V10 (HK9.out.1.trans g10 (fun _ _ h => h.elim)) ((g10.block _ (lt_of_heap HK9.out.2.1) id).trans HK9.out.2.1))
                    clear g10 a0 a1 aw at_ a10 u10 uf
                    by_cases hgt : st < (L : Int) + 1
                    · gi_wp2_with fail
                      exact ⟨HF.out.1, HF.out.2.2 hgt⟩
                    · gi_wp2_with fail
                      exact ⟨HF.out.1, HF.out.2.1 (by omega)⟩
                  · have h2b : (((L : Int) + 1) == 2) = false := by simp; omega
                    have HF := hidM (HFin.out V9 HK9.out.1 HK9.out.2.1)
                    clear hL1
                    by_cases hgt : st < (L : Int) + 1
                    · gi_wp2_with fail
                      refine ⟨trivial, ?_⟩
                      gi_wp2_with fail
                      exact ⟨HF.out.1, HF.out.2.2 hgt⟩
                    · gi_wp2_with fail
                      refine ⟨trivial, ?_⟩
                      gi_wp2_with fail
                      exact ⟨HF.out.1, HF.out.2.1 (by omega)⟩
            · rw [hsf]
              refine wpAnyH_take (i := 22) (oi := { dst := some 72, op := Go.Op.unOp Go.UnOp.not 4 (Go.Operand.tmp 71), type := 4, pos := "keep.go:29", after := #[{ on := 21, ground := Go.Ground.data }, { on := 14, ground := Go.Ground.guard }], guard := some (14, false) }) (v := ?v22f1) rfl (by kernel_rfl) (by kernel_rfl) (by kernel_rfl) (fun _ _ _ h => h) (Or.inl ⟨by rfl, ?y22f1⟩) (by assumption) ?r22f1
              case y22f1 => (intro w hSw; obtain ⟨s0, s1, s2, s3, s4, s5, s6, s7, s8, s9, t0, t1, t2, t3, t4, t5, t6⟩ := hSw; go_simp; (try with_reducible rfl))
              (try simp only [Act.put]); (try simp only [List.setIfInBounds_toArray]); (try simp only [List.set_cons_succ]); (try simp only [List.set_cons_zero])
              refine wpAnyH_take (i := 23) (oi := { dst := some 73, op := Go.Op.pick (Go.Operand.tmp 64) (Go.Operand.const (Go.Value.bool true)) (Go.Operand.tmp 72), type := 4, pos := "keep.go:29", after := #[{ on := 14, ground := Go.Ground.data }, { on := 22, ground := Go.Ground.data }], guard := none }) (v := ?v23f2) rfl (by kernel_rfl) (by kernel_rfl) (by kernel_rfl) (fun _ _ _ h => h) (Or.inl ⟨by rfl, ?y23f2⟩) (by assumption) ?r23f2
              case y23f2 => (intro w hSw; obtain ⟨s0, s1, s2, s3, s4, s5, s6, s7, s8, s9, t0, t1, t2, t3, t4, t5, t6⟩ := hSw; go_simp; (try with_reducible rfl))
              (try simp only [Act.put]); (try simp only [List.setIfInBounds_toArray]); (try simp only [List.set_cons_succ]); (try simp only [List.set_cons_zero])
              refine wpAnyH_done (by kernel_rfl) ?_ _
              have hx3 := ((hg24).block _ (lt_of_heap hxr) id).trans hxr
              have qr' := cell1 hx3
              have zr' := frz hx3 0
              have HG3 := hidM (hg24)
              clear hx3 qr zr
              gi_wp2_with fail
              exact HRet.out _ HG3.out (HNx.out (.inr hsf))
      case done =>
        rintro O M xs V2 hx hi hz2 hd
        have hlen : xs.length = n := by
          have h1 := congrArg List.length hx
          have h3 := HnN.out
          simp only [List.length_map] at h1
          omega
        have q10 := cell1 hi.b
        have hg2 : Gr V V2 := HV6.out.2.2.2.2.1.trans hi.k (fun j hj e => by have := HV6.out.2.2.2.2.2; omega)
        have hxw := (hi.k.block _ (by have := lt_of_heap HMid.out.xw; have := HV6.out.1.size; omega) (by have := lt_of_heap HMid.out.xw; have := HY5.out; omega)).trans ((HV6.out.1.block _ (lt_of_heap HMid.out.xw) id).trans HMid.out.xw)
        have qw := cell1 hxw
        rw [hlen] at q10
        have HG := hidM hg2
        have HD := hidM hd
        have hnb := Hn256.out
        clear hlen hi hg2 hxw hx hd hz2
        have HEnd : Hid (LpS W7 V2 (V6.heap.size :: rs)) := by
          have hz := HZ6.out
          have hy := HV6.out.2.2.2.2.2
          have hwy := HW7Y.out
          refine ⟨HLp.out.gr.trans HG.out (fun _ _ h => h), ⟨fun r hr => ?_, List.nodup_cons.2 ⟨fun hr => by have := lt_of_heap (HLp.out.ma.at_ _ hr); omega, HLp.out.ma.nd⟩⟩, fun r hr => ?_⟩
          · rcases List.mem_cons.1 hr with rfl | hr
            · exact HD.out
            · exact (HLp.out.ma.gr HG.out).at_ r hr
          · rcases List.mem_cons.1 hr with rfl | hr
            · omega
            · exact HLp.out.new r hr
        go_wp2_with fail
        refine ⟨⟨k + 1, V6.heap.size :: rs, _, _, _, _, _, _, _, _, _, _, _, _, _, _, _, _, _, _, by omega, rfl, HEnd.out⟩, ?_⟩
        simp [intOf]
        omega
      case stop =>
        rintro O c pre V2 hp hx hz2 hd
        rcases hx with ⟨rfl, hx⟩ | ⟨rfl, hx⟩
        · exact absurd hp hx
        obtain ⟨L, hL⟩ : ∃ L, L = pre.length := ⟨_, rfl⟩
        have q10 := cell1 hx.b
        rw [← hL] at q10
        have hg2 : Gr V V2 := HV6.out.2.2.2.2.1.trans hx.k (fun j hj e => by have := HV6.out.2.2.2.2.2; omega)
        have hxw := (hx.k.block _ (by have := lt_of_heap HMid.out.xw; have := HV6.out.1.size; omega) (by have := lt_of_heap HMid.out.xw; have := HY5.out; omega)).trans ((HV6.out.1.block _ (lt_of_heap HMid.out.xw) id).trans HMid.out.xw)
        have hxs := (hx.k.block _ (lt_of_heap HV6.out.2.2.1) (by omega)).trans HV6.out.2.2.1
        have qw := cell1 hxw
        have q9 := cell1 hxs
        have hgt := hx.gt
        have hpos := hx.pos
        have hpre := hx.pre
        rw [← hL] at hgt hpos hpre
        have HG := hidM hg2
        have HD := hidM hd
        have hLn : L ≤ n := by
          obtain ⟨ls, h1, h2⟩ := hp
          have h3 := congrArg List.length h2
          have h4 := h1.length_le
          have h5 := HnN.out
          simp only [List.length_map] at h3
          omega
        have hnb := Hn256.out
        have hst1 : st + 1 = (L : Int) ∨ (L = 1 ∧ st + 1 ≤ 1) := by omega
        have hmx : max (st + 1) 1 = (L : Int) := by rcases hst1 with h | h <;> omega
        have hwr : wrap64 (st + 1) = st + 1 := by have := HStm.out; unfold wrap64; omega
        clear hx hg2 hxw hxs hp hd hz2 hL
        have HEnd : Hid (LpS W7 V2 (V6.heap.size :: rs)) := by
          have hz := HZ6.out
          have hy := HV6.out.2.2.2.2.2
          have hwy := HW7Y.out
          refine ⟨HLp.out.gr.trans HG.out (fun _ _ h => h), ⟨fun r hr => ?_, List.nodup_cons.2 ⟨fun hr => by have := lt_of_heap (HLp.out.ma.at_ _ hr); omega, HLp.out.ma.nd⟩⟩, fun r hr => ?_⟩
          · rcases List.mem_cons.1 hr with rfl | hr
            · exact HD.out
            · exact (HLp.out.ma.gr HG.out).at_ r hr
          · rcases List.mem_cons.1 hr with rfl | hr
            · omega
            · exact HLp.out.new r hr
        refine wpIn_wide.2 ?_
        by_cases hLn' : L = n
        · rw [hLn'] at q10
          clear hLn' hmx hst1 hgt hpos hpre hLn hwr
          go_wp2_with fail
          refine ⟨⟨k + 1, V6.heap.size :: rs, _, _, _, _, _, _, _, _, _, _, _, _, _, _, _, _, _, _, by omega, rfl, HEnd.out⟩, ?_⟩
          simp [intOf]
          omega
        · have hb : ((L : Int) != (n : Int)) = true := by simp; omega
          have hb2 : ((L : Int) != max (st + 1) 1) = false := by simp; omega
          clear hLn' hst1 hgt hpos hpre hLn hmx
          go_wp2_with fail
          refine ⟨⟨k + 1, V6.heap.size :: rs, _, _, _, _, _, _, _, _, _, _, _, _, _, _, _, _, _, _, by omega, rfl, HEnd.out⟩, ?_⟩
          simp [intOf]
          omega
    · have hkm : k = m + 1 := by omega
      subst hkm
      have hg57 : Gr W5 W7 := HG6.out.trans ha3.out.2.1 (fun _ _ h => h)
      have hg5V : Gr W5 V := hg57.trans HLp.out.gr (fun _ _ h => h)
      have hxr := (hg5V.block _ (lt_of_heap HMid.out.xr) id).trans HMid.out.xr
      have hX7 : X + 1 < W7.heap.size := by have := lt_of_heap HMid.out.xr; have := hg57.size; omega
      have qr := cell1 hxr
      have zr := frz hxr 0
      have HFin := hidM (And.intro hxr (And.intro (HMid.out.gw.trans hg5V (fun _ _ h => h)) hX7))
      clear hg57 hg5V hxr hX7
      go_wp2_with fail
      obtain ⟨hxr, hgw, hX7⟩ := HFin.out
      have kk := keep1 (j := 0) (Keeps.refl V (fun b => b = X + 1)) (.bool true)
      have b1 : (V.setCell ⟨X + 1, 0, none⟩ (.bool true)).heap[X + 1]? = some (.cells #[.bool true] 4 (0, 0)) := by rw [setc (j := 0) hxr]; simp
      refine leave_marks rs _ ⟨fun r hr => ?_, HLp.out.ma.nd⟩ fun w' k' => ?_
      · exact (kk.block r (lt_of_heap (HLp.out.ma.at_ r hr)) (by have := HLp.out.new r hr; omega)).trans (HLp.out.ma.at_ r hr)
      · have hXe := HXe.out
        have hsz := hgw.size
        have hW7 : w.heap.size ≤ W7.heap.size := by omega
        have b2 := (k'.block _ (lt_of_heap b1) (fun h => by have := HLp.out.new _ h; omega)).trans b1
        have hr6 := cell1 b2
        refine ⟨.bool true, ?_, rfl, (hgw.trans kk (fun j hj e => by omega)).trans k' (fun j hj e => by have := HLp.out.new j e; omega)⟩
        simp [results, Tryd.f3, go_sem, hr6]
  by_cases hn : n = 0
  · subst hn
    have HWk := hidM (walk_any S D fo no cf ns.length cn fs (er == 0) w HMb.out HA.out.row HS.out)
    go_wp2_with (go_at_call 7; refine Hid.out ?_)
    unfold Hid
    refine Calls.mono (HWk.out _ HW3.out.1) ?_
    rintro e W5 ⟨K, ko, kc, hq⟩
    obtain rfl := hq.e
    have g35 := hq.g
    have hmid : MidW w W2 W5 X 0 #[.slice fo fs.length cf, .slice no ns.length cn] vo vc [] W2.heap.size K ko kc D (if (er == 0) = true then fs else []) (NewB W3 W5) := by
      obtain ⟨a1, a2, a3, a4, a5, a6, a7⟩ := HW3.out
      refine ⟨a1.trans g35 (fun _ _ h => h), a2.trans g35 (fun _ _ h => h), (g35.block _ (lt_of_heap a3) id).trans a3, (g35.block _ (lt_of_heap a4) id).trans a4, (g35.block _ (lt_of_heap a5) id).trans a5, HXb.out, hq.k, hq.row, fun b hb => hb.2, hq.le, by have := HDb.out; omega, ?_, fun b hb => by have := hb.1; omega⟩
      by_cases he : er = 0
      · rw [if_pos (by simp [he])]
        exact List.eq_nil_of_length_eq_zero (HNs.out he).1.symm
      · rw [if_neg (by simp [he])]
        exact nodes_nil _ _ _
    have w5' := cell1 hmid.xw
    have HMid := hidM hmid
    have hnilK := hnil K
    clear hq g35 hmid p0 p1 q0 q1 s0 s1 t0 t1 hnil
    go_wp2_with fail
    exact HRest.out W5 K ko kc D _ _ [] _ _ _ _ _ _ _ _ _ _ _ _ _ _ _ _ _ _ _ _ HMid.out rfl (fun h => absurd h (by omega))
  · have hpos : 0 < n := by omega
    have her : er = 0 := Classical.byContradiction fun h => by have := HBad.out h; omega
    have hsc : Sch S w (D + 1) fo no cf cn fs ns := ⟨HA.out.row.up, HA.out.le, HA.out.notes⟩
    have HCp := hidM (copySchema_any hsc HS.out)
    have hposI : (0 : Int) < (n : Int) := by omega
    have HEr := hidM her
    have HPos := hidM hpos
    clear hn hsc her hpos
    go_wp2_with (go_at_call 6; refine Hid.out ?_)
    unfold Hid
    refine Calls.mono (HCp.out _ HW3.out.1) ?_
    rintro e W4 ⟨tb, nb, rfl, hg4, hT4, hN4⟩
    obtain ⟨a1, a2, a3, a4, a5, a6, a7⟩ := HW3.out
    have x6 := (hg4.block _ (lt_of_heap a6) id).trans a6
    obtain ⟨u0, u1⟩ := cell2 x6
    have f0 := frz x6 0
    have f1 := frz x6 1
    obtain ⟨W4', hW4'⟩ : ∃ W4', (W4.setCell ⟨W2.heap.size + 1, 0, none⟩ (.slice (some ⟨tb, 0, none⟩) fs.length fs.length)).setCell ⟨W2.heap.size + 1, 1, none⟩ (.slice (some ⟨nb, 0, none⟩) ns.length ns.length) = W4' := ⟨_, rfl⟩
    have k4 : Keeps W4 W4' (fun b => b = W2.heap.size + 1) := by rw [← hW4']; exact keep1 (j := 1) (keep1 (j := 0) (Keeps.refl W4 (fun b => b = W2.heap.size + 1)) _) _
    have x6' : W4'.heap[W2.heap.size + 1]? = some (.cells #[.slice (some ⟨tb, 0, none⟩) fs.length fs.length, .slice (some ⟨nb, 0, none⟩) ns.length ns.length] 25 (0, 0)) := by rw [← hW4', setc (j := 1) (setc (j := 0) x6 _) _]; simp
    obtain ⟨v0, v1⟩ := cell2 x6'
    have hT4' : Tr W4' (D + 2) W3.heap.size W4.heap.size (some ⟨tb, 0, none⟩) fs.length fs := hT4.kept fun b h1 h2 => k4.block b h2 (by omega)
    have hN4' : NotesAt W4' (some ⟨nb, 0, none⟩) ns := ⟨hN4.1, fun hne => by
      obtain ⟨b, o, e, hc⟩ := hN4.2 hne
      cases e
      refine ⟨nb, 0, rfl, fun i hi => ?_⟩
      have hnbl : nb ≠ W2.heap.size + 1 := fun e => by
        have h1 := (hc 0 (List.length_pos_iff.2 hne)).1
        rw [Nat.zero_add, Nat.zero_mul, e, u0] at h1
        cases h1
      exact ⟨k4.cell' (hc i hi).1 hnbl, k4.cell' (hc i hi).2 hnbl⟩⟩
    have hg34 : Gr w W4 := a1.trans hg4 (fun _ _ h => h)
    have hs24 := a2.size
    have hsw2 := HG2.out.1.size
    have hs34 := hg4.size
    have hgw4 : Gr w W4' := hg34.trans k4 (fun j hj e => by omega)
    have hg24 : Gr W2 W4' := (a2.trans hg4 (fun _ _ h => h)).trans k4 (fun j hj e => by omega)
    have hS4 : ∀ b, (W3.heap.size ≤ b ∧ b < W4.heap.size) → b < W4'.heap.size := fun b hb => by have := k4.size; omega
    have hsch : Sch (fun b => W3.heap.size ≤ b ∧ b < W4.heap.size) W4' (D + 2) (some ⟨tb, 0, none⟩) (some ⟨nb, 0, none⟩) fs.length ns.length fs ns := ⟨hT4'.row, Nat.le_refl _, hN4'⟩
    obtain ⟨er', pp', tt', ta'⟩ := hsch.tells (HT.out.gr hgw4) HDb.out hS4
    have hn1 := nodes_up D fs fo [] false HA.out.row
    have hn2 := nodes_up (D + 1) fs fo [] false HA.out.row.up
    have her' : er' = 0 := by
      have h1 := ta'.is
      rw [hn2, hn1] at h1
      have h2 := HTA.out.is
      rw [HEr.out] at h2
      exact (h2.one h1).1.symm
    subst her'
    have HWk := hidM (walk_any _ (D + 2) (some ⟨tb, 0, none⟩) (some ⟨nb, 0, none⟩) fs.length ns.length ns.length fs ((0 : Int) == 0) W4' (maybe_gen ta'.t11) hsch.row hS4)
    have x3' := (k4.block _ (by have := lt_of_heap a3; omega) (by have := HXb.out; omega)).trans ((hg4.block _ (lt_of_heap a3) id).trans a3)
    have x4' := (k4.block _ (by have := lt_of_heap a4; omega) (by have := HXb.out; omega)).trans ((hg4.block _ (lt_of_heap a4) id).trans a4)
    have x5' := (k4.block _ (by have := lt_of_heap a5; omega) (by omega)).trans ((hg4.block _ (lt_of_heap a5) id).trans a5)
    have HP4 := hidM (And.intro hgw4 (And.intro hg24 (And.intro x3' (And.intro x4' (And.intro x5' (And.intro x6' (And.intro hT4' (And.intro k4.size (And.intro a7 (And.intro hs34 (hn2.trans hn1)))))))))))
    clear a1 a2 a3 a4 a5 a6 a7 x6 hg4 hT4 hN4 k4 x6' hT4' hN4' hg34 hs24 hsw2 hs34 hgw4 hg24 hS4 hsch ta' hn1 hn2 x3' x4' x5' p0 p1 q0 q1 s0 s1 t0 t1 hW3 w5
    go_wp2_with (go_at_call 7; refine Hid.out ?_)
    unfold Hid
    refine Calls.mono (HWk.out _ (Keeps.refl _ _)) ?_
    rintro e W5 ⟨K, ko, kc, hq⟩
    obtain rfl := hq.e
    have hqr := hq.row
    have hqle := hq.le
    have hqk := hq.k
    simp only [beq_self_eq_true, if_true] at hqr hqle hqk
    obtain ⟨b1, b2, b3, b4, b5, b6, b7, b8, b9, b10, b11⟩ := HP4.out
    have g45 := hq.g
    have y5 := (g45.block _ (lt_of_heap b5) id).trans b5
    have y6 := (g45.block _ (lt_of_heap b6) id).trans b6
    have w5' := cell1 y5
    obtain ⟨v0', v1'⟩ := cell2 y6
    have hs5 := g45.size
    have HSp := hidM (spoil_any ⟨#[115, 112, 111, 105, 108, 116]⟩ (D + 2) W5 W3.heap.size W4.heap.size (some ⟨tb, 0, none⟩) fs.length fs (b7.kept fun b h1 h2 => g45.block b (by omega) id) (by omega))
    have HQ := hidM (And.intro g45 (And.intro hqk (And.intro hq.kn (And.intro hqle (And.intro hqr (And.intro y5 hs5))))))
    have hnilK := hnil K
    clear b1 b2 b3 b4 b5 b6 b7 b8 b9 b10 b11 hq hqr hqle hqk g45 y5 y6 hs5 hnil v0 v1 u0 u1 f0 f1
    go_wp2_with (go_at_call 8; refine Hid.out ?_)
    unfold Hid
    refine Calls.mono HSp.out ?_
    rintro e W6 ⟨rfl, k6, _⟩
    have hmid : MidW w W2 W6 X n #[.slice fo fs.length cf, .slice no ns.length cn] vo vc (nodes D fs [] false) W2.heap.size K ko kc (D + 2) fs (NewB W4' W5) := by
      obtain ⟨b1, b2, b3, b4, b5, b6, b7, b8, b9, b10, b11⟩ := HP4.out
      obtain ⟨c1, c2, c3, c4, c5, c6, c7⟩ := HQ.out
      have hxb := HXb.out
      have hsw := HG2.out.1.size
      have kk : ∀ b o, b < W3.heap.size → W4'.heap[b]? = some o → W6.heap[b]? = some o := fun b o hb h => (k6.block b (by have := lt_of_heap h; omega) (by omega)).trans ((c1.block b (lt_of_heap h) id).trans h)
      refine ⟨(b1.trans c1 (fun _ _ h => h)).trans k6 (fun j hj e => by omega), (b2.trans c1 (fun _ _ h => h)).trans k6 (fun j hj e => by omega), kk _ _ (by omega) b3, kk _ _ (by omega) b4, kk _ _ (by omega) b5, hxb, (k6.block K (lt_of_heap c2) (by omega)).trans c2, c5.kept fun b hb => k6.block b hb.2 (by have := hb.1; omega), fun b hb => by have := hb.2; have := k6.size; omega, c4, HDb.out, b11, fun b hb => by have := hb.1; have := b2.size; omega⟩
    have HMid := hidM hmid
    clear k6 hmid
    go_wp2_with fail
    exact HRest.out W6 K ko kc (D + 2) fs _ (nodes D fs [] false) _ _ _ _ _ _ _ _ _ _ _ _ _ _ _ _ _ _ _ _ HMid.out (HNs.out HEr.out).1 (fun _ => rfl)
end Go.Proofs.YtjdojbbjbippoaaDoor.Kit
