import Derived.Test.YtjdojbbjbippoaaDoorTE
namespace Go.Proofs.YtjdojbbjbippoaaDoor.Kit
open Go.RowKit Go.Shelf Go.Deep
set_option linter.unusedVariables false
attribute [local go_sem] run_store_func
/-! ### CopySchema 6 -/
theorem run_copy_src {P : Program} (w : World) (dT ty elem : TypeId) (size n dCap g : Nat) (cur : Array Value) (t : TypeId) (ao : Option Addr) (sc : Nat) (xs : List Value)
    (hu : P.underlying dT = some (.slice elem)) (hs : (P.info? elem).map (·.size) = some size) (hg : w.heap[g]? = some (.cells cur t (0, 0))) (hcur : cur.size = n * size)
    (hlen : xs.length = n * size) (hc : (Builtin.firstCells size n (.slice ao n sc)).run P w = .ok xs.toArray w) (h1 : ∀ u ∈ xs, u.oneCell' = true) :
    (Builtin.copy_ #[dT, dT] ty #[.slice (some ⟨g, 0, none⟩) n dCap, .slice ao n sc]).run P w = .ok (goInt n) (w.setRow g xs.toArray) := by
  have hst := run_storeCells_at P g 0 t xs 0 cur w hg (by simp; omega) h1
  have e2 : (cur.toList.take (0 + 0) ++ xs ++ cur.toList.drop (0 + 0 + xs.length)).toArray = xs.toArray := by
    have : cur.toList.drop (0 + 0 + xs.length) = [] := by
      apply List.drop_eq_nil_of_le
      simp; omega
    rw [this]; simp
  rw [e2] at hst
  cases hq : P.info? elem with
  | none => simp [hq] at hs
  | some i =>
    have hi : i.size = size := by simpa [hq] using hs
    simp [Builtin.copy_, run_underlying hu, Builtin.lenOf, sizeOf, typeInfo, hq, hi, hc, hst]
theorem wpList_copy_src {P : Program} {w : World} {ops : Array Oper} {rest : List Oper} {o : Oper} {a : Act} {Q : Exit → Act → World → Prop} (hgd : o.guard = none) (d s : Operand) (dT : TypeId)
    (ho : o.op = .call { callee := .builtin .copy, args := #[d, s], argTypes := #[dT, dT] }) (elem : TypeId) (size : Nat) (hu : P.underlying dT = some (.slice elem)) (hs : (P.info? elem).map (·.size) = some size)
    (n dCap g : Nat) (cur : Array Value) (t : TypeId) (ao : Option Addr) (sc : Nat) (xs : List Value) (hd : a.eval d = .slice (some ⟨g, 0, none⟩) n dCap) (hv : a.eval s = .slice ao n sc)
    (hg : w.heap[g]? = some (.cells cur t (0, 0))) (hcur : cur.size = n * size) (hlen : xs.length = n * size) (hc : (Builtin.firstCells size n (.slice ao n sc)).run P w = .ok xs.toArray w) (h1 : ∀ u ∈ xs, u.oneCell' = true)
    (h : ∀ w', Hid (w'.heap[g]? = some (.cells xs.toArray t (0, 0)) ∧ Keeps w w' (fun z => z = g)) → wpList P ops Q rest (a.put o.dst (goInt n)) w') : wpList P ops Q (o :: rest) a w := by
  refine wpList_plain hgd fun K hK => ?_
  have hrun := run_copy_src (P := P) w dT o.type elem size n dCap g cur t ao sc xs hu hs hg hcur hlen hc h1
  unfold Oper.wp
  simp [execOp, ho, resolve, invoke, builtin, hd, hv, hrun, Result.andThen]
  exact hK _ _ (h _ (show _ ∧ _ from ⟨setRow_heap w g cur _ t _ hg, ⟨rfl, rfl, rfl, by simp, fun k _ hk => setRow_other w g k _ hk⟩⟩))
def ntc (ns : List (ByteArray × ByteArray)) : List Value := ns.flatMap fun x => [Value.string x.1, Value.string x.2]
theorem ntc_len (ns : List (ByteArray × ByteArray)) : (ntc ns).length = ns.length * 2 := by
  induction ns with
  | nil => rfl
  | cons x ns ih => simp only [ntc, List.flatMap_cons, List.length_append, List.length_cons, List.length_nil] at ih ⊢; omega
theorem ntc_one (ns : List (ByteArray × ByteArray)) : ∀ u ∈ ntc ns, u.oneCell' = true := by
  intro u hu
  obtain ⟨x, _, hx⟩ := List.mem_flatMap.1 hu
  simp at hx
  rcases hx with rfl | rfl <;> rfl
theorem ntc_at : ∀ (ns : List (ByteArray × ByteArray)) (i : Nat) (h : i < ns.length), (ntc ns)[i * 2]? = some (.string ns[i].1) ∧ (ntc ns)[i * 2 + 1]? = some (.string ns[i].2)
  | [], i, h => by simp at h
  | x :: ns, 0, h => by simp [ntc]
  | x :: ns, i + 1, h => by
    have ih := ntc_at ns i (by simpa using h)
    have e : ntc (x :: ns) = .string x.1 :: .string x.2 :: ntc ns := by simp [ntc]
    rw [e, show (i + 1) * 2 = i * 2 + 1 + 1 by omega]
    simpa using ih
theorem NotesAt.cells {W : World} {no : Option Addr} {ns : List (ByteArray × ByteArray)} (h : NotesAt W no ns) (cn : Nat) : (Builtin.firstCells 2 ns.length (.slice no ns.length cn)).run Tryd.prog W = .ok (ntc ns).toArray W := by
  by_cases hn : ns = []
  · subst hn
    cases no with
    | none => exact run_firstCells_none W 2 0 0 cn
    | some p => exact run_firstCells_some W 2 0 p 0 cn [] rfl (fun j v hj => by simp at hj)
  · obtain ⟨b, o, rfl, hc⟩ := h.2 hn
    refine run_firstCells_some W 2 ns.length ⟨b, o, none⟩ ns.length cn (ntc ns) (ntc_len ns) (fun j v hj => ?_)
    have hj2 : j < ns.length * 2 := by rw [← ntc_len]; exact (List.getElem?_eq_some_iff.1 hj).1
    have hi : j / 2 < ns.length := by omega
    obtain ⟨c0, c1⟩ := hc (j / 2) hi
    obtain ⟨d0, d1⟩ := ntc_at ns (j / 2) hi
    simp only [Addr.add_lit]
    rcases Nat.mod_two_eq_zero_or_one j with e | e
    · have ej : j = j / 2 * 2 := by omega
      rw [ej] at hj ⊢
      rw [d0] at hj
      cases hj
      exact c0
    · have ej : j = j / 2 * 2 + 1 := by omega
      rw [ej] at hj ⊢
      rw [d1] at hj
      cases hj
      rw [← Nat.add_assoc]
      exact c1
theorem NotesAt.made {W : World} {g : Nat} {ns : List (ByteArray × ByteArray)} (hl : ns.length ≤ big) (h : W.heap[g]? = some (.cells (ntc ns).toArray 79 (0, 0))) : NotesAt W (some ⟨g, 0, none⟩) ns := by
  refine ⟨hl, fun _ => ⟨g, 0, rfl, fun i hi => ?_⟩⟩
  obtain ⟨d0, d1⟩ := ntc_at ns i hi
  simp only [World.cell?, h, Nat.zero_add]
  exact ⟨by simpa using d0, by simpa using d1⟩
theorem info79f : (Tryd.prog.info? 79).map (fun i => (i.size, i.bytes)) = some (2, 32) := by kernel_rfl
theorem size79 : (Tryd.prog.info? 79).map (·.size) = some 2 := by kernel_rfl
theorem make_notes (n : Nat) (h : n ≤ 1000000000000) : ∃ z : Array Value, ∀ w, (Instr.makeSlice 23 (.int .i64 (n : Int)) (.int .i64 (n : Int))).run Tryd.prog w = .ok (.slice (some ⟨w.heap.size, 0, none⟩) n n) (w.alloc (.cells (madeCells z (n * 2)) 79)) := by
  obtain ⟨i, hi, hzz⟩ := Option.map_eq_some_iff.1 info79f
  simp only [Prod.mk.injEq] at hzz
  obtain ⟨hs, hb⟩ := hzz
  have hzs : (Tryd.prog.info? 79).bind (·.zero) = some (.agg #[.string ⟨#[]⟩, .string ⟨#[]⟩]) := by kernel_rfl
  rw [hi] at hzs
  have hz : i.zero = some (.agg #[.string ⟨#[]⟩, .string ⟨#[]⟩]) := hzs
  refine ⟨(Value.agg #[.string ⟨#[]⟩, .string ⟨#[]⟩]).cells, fun w => ?_⟩
  have hb' : (i.bytes : Int) * (n : Int) ≤ 281474976710656 := by rw [hb]; omega
  have hr := run_make (P := Tryd.prog) w 23 79 i _ Tryd.underlying23 hi hz .i64 .i64 n n (by omega) (Int.le_refl _) hb' (by omega)
  simp only [Int.toNat_natCast, hs] at hr
  exact hr
def CpSQ (W : World) (D : Nat) (fs : List FT) (ns : List (ByteArray × ByteArray)) (e : Ending) (w' : World) : Prop :=
  ∃ b nb, e = .returned (.agg #[.slice (some ⟨b, 0, none⟩) fs.length fs.length, .slice (some ⟨nb, 0, none⟩) ns.length ns.length]) ∧ Gr W w' ∧ Tr w' D W.heap.size w'.heap.size (some ⟨b, 0, none⟩) fs.length fs ∧ NotesAt w' (some ⟨nb, 0, none⟩) ns
set_option maxRecDepth 100000 in
set_option maxHeartbeats 4000000 in
theorem copySchema_any {S : Nat → Prop} {d : Nat} {fo no : Option Addr} {cf cn : Nat} {fs : List FT} {ns : List (ByteArray × ByteArray)} {w : World} (ha : Sch S w (d + 1) fo no cf cn fs ns) (hS : ∀ b, S b → b < w.heap.size) :
    ∀ W, Gr w W → Calls Tryd.prog 6 #[.agg #[.slice fo fs.length cf, .slice no ns.length cn]] W (CpSQ W (d + 2) fs ns) := by
  intro W g
  have HCF := hidM (copyFields_any S w hS d fs fo cf ha.row)
  unfold CpsC at HCF
  have HG := hidM g
  have HNt := hidM (ha.notes.gr g)
  have hnl : ns.length ≤ 1000000000000 := ha.notes.1
  obtain ⟨m, hm⟩ : ∃ m, m = ns.length := ⟨_, rfl⟩
  obtain ⟨n, hn⟩ : ∃ n, n = fs.length := ⟨_, rfl⟩
  have HM := hidM hm
  have HNn := hidM hn
  rw [← hm] at hnl
  rw [← hn] at HCF
  unfold CpSQ
  rw [← hm, ← hn]
  have hA := alloc2 W (.cells #[.slice fo n cf, .slice no m cn] 25) (.cells #[.slice none 0 0, .slice none 0 0] 25)
  obtain ⟨V, hV⟩ : ∃ V, (W.alloc (.cells #[.slice fo n cf, .slice no m cn] 25)).alloc (.cells #[.slice none 0 0, .slice none 0 0] 25) = V := ⟨_, rfl⟩
  have hVz : V.heap.size = W.heap.size + 2 := by rw [← hV]; simp
  obtain ⟨z, hmkz⟩ := make_notes m hnl
  have hmk := hmkz V
  obtain ⟨V1, hV1⟩ : ∃ V1, V1 = V.alloc (.cells (madeCells z (m * 2)) 79) := ⟨_, rfl⟩
  rw [← hV1, hVz] at hmk
  rw [hV] at hA
  have hg1 : Gr V V1 := by rw [hV1]; exact gr_alloc V _
  have hN1 : V1.heap[W.heap.size + 2]? = some (.cells (madeCells z (m * 2)) 79 (0, 0)) := by rw [hV1, ← hVz]; exact heap_alloc_new V _
  have b1 := (hg1.block _ (lt_of_heap hA.1) id).trans hA.1
  have b2 := (hg1.block _ (lt_of_heap hA.2.1) id).trans hA.2.1
  obtain ⟨p0, p1⟩ := cell2 b1
  obtain ⟨q0, q1⟩ := cell2 hA.1
  have hgW1 : Gr W V1 := hA.2.2.trans hg1 (fun _ _ h => h)
  have hcopy : (Builtin.firstCells 2 m (.slice no m cn)).run Tryd.prog V1 = .ok (ntc ns).toArray V1 := by rw [hm]; exact (HNt.out.gr hgW1).cells cn
  have HCopy := hidM hcopy
  have hml : (ntc ns).length = m * 2 := by rw [hm]; exact ntc_len ns
  have HMl := hidM hml
  have HB := hidM (And.intro b1 (And.intro b2 (And.intro hN1 hgW1)))
  have HVz := hidM hVz
  clear ha hS g hm hn hA hVz hmkz hV1 hg1 b1 b2 hN1 hgW1 hcopy hml
  go_enter Tryd.func6, Tryd.ntmps6
  go_wp2_with (with_reducible show wpList Tryd.prog _ _ (Oper.mk (some 11) _ _ _ _ _ :: _) _ _; refine wpList_copy_src (P := Tryd.prog) rfl (.tmp 8) (.tmp 10) 23 rfl 79 2 Tryd.underlying23 size79 m m (W.heap.size + 2) (madeCells z (m * 2)) 79 no cn (ntc ns) rfl rfl HB.out.2.2.1 (by rw [size_madeCells]) HMl.out HCopy.out (ntc_one ns) ?_; intro V2 HN2; refine Hid.out ?_)
  refine (show ∀ {P : Prop}, P → Hid P from fun h => h) ?_

  obtain ⟨hn2, k2⟩ := HN2.out
  have d1 := (k2.block _ (lt_of_heap HB.out.1) (by omega)).trans HB.out.1
  have d2 := (k2.block _ (lt_of_heap HB.out.2.1) (by omega)).trans HB.out.2.1
  have hgW2 : Gr W V2 := HB.out.2.2.2.trans k2 (fun j hj e => by omega)
  obtain ⟨r0, r1⟩ := cell2 d1
  have HD := hidM (And.intro d2 (And.intro hn2 hgW2))
  clear hn2 k2 d1 d2 hgW2 p0 p1 q0 q1 HN2
  go_wp2_with (go_at_call 20; refine Hid.out ?_)
  unfold Hid
  refine Calls.mono (HCF.out _ (HG.out.trans HD.out.2.2 (fun _ _ h => h))) ?_
  rintro e V3 ⟨b, rfl, hg3, hT⟩
  have e2 := (hg3.block _ (lt_of_heap HD.out.1) id).trans HD.out.1
  have en := (hg3.block _ (lt_of_heap HD.out.2.1) id).trans HD.out.2.1
  have hgW3 : Gr W V3 := HD.out.2.2.trans hg3 (fun _ _ h => h)
  obtain ⟨s0, s1⟩ := cell2 e2
  have f0 := frz e2 0
  have f1 := frz e2 1
  have HE := hidM (And.intro e2 (And.intro en (And.intro hgW3 (And.intro hT hg3))))
  clear hg3 hT e2 en hgW3 r0 r1
  go_wp2_with fail
  obtain ⟨e2, en, hgW3, hT, hg3⟩ := HE.out
  have t2 := setc (j := 1) (setc (j := 0) e2 (.slice (some ⟨b, 0, none⟩) n n)) (.slice (some ⟨W.heap.size + 2, 0, none⟩) m m)
  have kz := keep1 (j := 1) (keep1 (j := 0) (Keeps.refl V3 (fun z => z = W.heap.size + 1)) (.slice (some ⟨b, 0, none⟩) n n)) (.slice (some ⟨W.heap.size + 2, 0, none⟩) m m)
  refine bodyPost_ret (results_cell_row rfl _ _ _ _ _ _ _ rfl (t2.trans (by simp : _ = some (Obj.cells #[.slice (some ⟨b, 0, none⟩) n n, .slice (some ⟨W.heap.size + 2, 0, none⟩) m m] 25 (0, 0)))) Tryd.underlying25 rfl (by kernel_rfl)) rfl ⟨b, W.heap.size + 2, rfl, ?_, ?_, ?_⟩
  · exact hgW3.trans kz (fun j hj e => by omega)
  · have hs2 := HD.out.2.2.size
    have hlt2 : W.heap.size + 2 < V2.heap.size := lt_of_heap HD.out.2.1
    exact (hT.kept fun c h1 h2 => kz.block c h2 (by omega)).wide (by omega) kz.size
  · have h1 := (kz.block _ (lt_of_heap en) (by omega)).trans en
    have hnl2 : ns.length ≤ big := by have := HM.out; show _ ≤ 1000000000000; omega
    exact NotesAt.made hnl2 h1
end Go.Proofs.YtjdojbbjbippoaaDoor.Kit
