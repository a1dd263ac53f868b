import Derived.Test.YtomlndoffoeaiaaViewD
namespace Go.Proofs.Ytomlndoffoeaiaa.Kit
open Go.RowKit Go.Deep

section
variable {P : Program}
/-- copy of a whole list, its elements of several cells, into a row that the call has made -/
theorem run_copy_all (w : World) (dT ty elem : TypeId) (size n dCap g : Nat) (cur : Array Value) (t e : TypeId) (v : Value) (xs : List Value)
    (hu : P.underlying dT = some (.slice elem)) (hs : (P.info? elem).map (·.size) = some size) (hg : w.heap[g]? = some (.cells cur t (0, 0))) (hcur : cur.size = n * size)
    (hown : w.ownsRow 0 e size v n xs) (h1 : ∀ u ∈ xs, u.oneCell' = true) :
    (Builtin.copy_ #[dT, dT] ty #[.slice (some ⟨g, 0, none⟩) n dCap, v]).run P w = .ok (goInt n) (w.setRow g xs.toArray) := by
  rcases hown.2 with ⟨rfl, rfl⟩ | ⟨g', cap, cur', rfl, _⟩
  · obtain rfl : xs = [] := List.eq_nil_of_length_eq_zero (by simpa using hown.1)
    obtain rfl : cur = #[] := Array.eq_empty_of_size_eq_zero (by simpa using hcur)
    rw [run_copy_nil P w dT dT ty elem _ 0 dCap hu (by rw [hs]; rfl)]
    rw [setRow_self w g #[] t (0, 0) hg]
    rfl
  · have hl := run_loadCells_list (P := P) w ⟨g', 0, none⟩ xs (hown.cells (g := g') rfl)
    have hlen := hown.1
    have hst := run_storeCells_at P g 0 t xs 0 cur w hg (by simp; omega) h1
    have e2 : (cur.toList.take (0 + 0) ++ xs ++ cur.toList.drop (0 + 0 + xs.length)).toArray = xs.toArray := by
      have : cur.toList.drop (0 + 0 + xs.length) = [] := by
        apply List.drop_eq_nil_of_le
        simp; omega
      rw [this]; simp
    rw [e2] at hst
    cases hq : P.info? elem with
    | none => simp [hq] at hs
    | some i =>
      have hi : i.size = size := by simpa [hq] using hs
      rw [hlen] at hl
      simp [Builtin.copy_, run_underlying hu, Builtin.lenOf, Builtin.firstCells, sizeOf, typeInfo, hq, hi, hl, hst]

theorem wpList_copy_all {w : World} {ops : Array Oper} {rest : List Oper} {o : Oper} {a : Act} {Q : Exit → Act → World → Prop} (hgd : o.guard = none) (d s : Operand) (dT : TypeId)
    (ho : o.op = .call { callee := .builtin .copy, args := #[d, s], argTypes := #[dT, dT] }) (elem : TypeId) (size : Nat) (hu : P.underlying dT = some (.slice elem)) (hs : (P.info? elem).map (·.size) = some size)
    (n dCap g : Nat) (cur : Array Value) (t e : TypeId) (v : Value) (xs : List Value) (hd : a.eval d = .slice (some ⟨g, 0, none⟩) n dCap) (hv : a.eval s = v)
    (hg : w.heap[g]? = some (.cells cur t (0, 0))) (hcur : cur.size = n * size) (hown : w.ownsRow 0 e size v n xs) (h1 : ∀ u ∈ xs, u.oneCell' = true) (B : Nat) (w0 : World) (hb : Below B w0 w) (hBg : B ≤ g)
    (h : ∀ w', Hid (w'.heap[g]? = some (.cells xs.toArray t (0, 0))) → Below B w0 w' → wpList P ops Q rest (a.put o.dst (goInt n)) w') : wpList P ops Q (o :: rest) a w := by
  refine wpList_plain hgd fun K hK => ?_
  have hrun := run_copy_all (P := P) w dT o.type elem size n dCap g cur t e v xs hu hs hg hcur hown h1
  unfold Oper.wp
  simp [execOp, ho, resolve, invoke, builtin, hd, hv, hrun, Result.andThen]
  exact hK _ _ (h _ (show _ = _ from setRow_heap w g cur _ t _ hg) (below_setRow hb hBg _))
end

theorem readCells_one (rs : List (Int × Int)) : ∀ u ∈ readCells rs, u.oneCell' = true := by
  intro u hu
  obtain ⟨r, _, hr⟩ := List.mem_flatMap.1 hu
  simp at hr
  rcases hr with rfl | rfl <;> rfl
theorem size50 : (Try.prog.info? 50).map (·.size) = some 2 := by kernel_rfl

theorem make_reads (n : Nat) (h : n * 16 ≤ 281474976710656) : ∀ w, (Instr.makeSlice 44 (.int .i64 (n : Int)) (.int .i64 (n : Int))).run Try.prog w = .ok (.slice (some ⟨w.heap.size, 0, none⟩) n n) (w.alloc (.cells (madeCells #[.int .i64 0, .int .i64 0] (n * 2)) 50)) := by
  intro w
  obtain ⟨i, hi, hzz⟩ := Option.map_eq_some_iff.1 info50
  simp only [Prod.mk.injEq] at hzz
  obtain ⟨hz, hs, hb⟩ := hzz
  have hb' : (i.bytes : Int) * (n : Int) ≤ 281474976710656 := by rw [hb]; omega
  have hr := run_make (P := Try.prog) w 44 50 i _ Try.underlying44 hi hz .i64 .i64 n n (by omega) (Int.le_refl _) hb' (by omega)
  simp only [Int.toNat_natCast, hs] at hr
  exact hr

theorem newWatch_any (w : World) : Calls Try.prog 13 #[] w fun e w' => e = .returned (.pointer (some ⟨w.heap.size, 0, none⟩)) ∧ w' = w.alloc (.cells #[.slice none 0 0] 109) := by
  go_enter Try.func13, Try.ntmps13
  go_wp2
  go_ret
  exact ⟨rfl, rfl⟩
theorem WatchAt.new (w : World) : WatchAt (w.alloc (.cells #[.slice none 0 0] 109)) w.heap.size none [] :=
  ⟨.slice none 0 0, heap_alloc_new w _, World.ownsRow_nil _ _ _ _, rfl⟩

set_option maxRecDepth 100000 in
set_option maxHeartbeats 1000000 in
theorem reads_any (q : Nat) (gq : Option Nat) (rs : List (Int × Int)) (w : World) (hI : WatchAt w q gq rs) (hrs : rs.length ≤ 1000000000000) :
    Calls Try.prog 18 #[.pointer (some ⟨q, 0, none⟩)] w fun e w' => e = .returned (.slice (some ⟨w.heap.size, 0, none⟩) rs.length rs.length) ∧ OwnRow w' w.heap.size 50 (readCells rs) ∧ Below w.heap.size w w' := by
  obtain ⟨ao, cap, HF, h0, hf⟩ := hI.open
  have hq := hI.lt.1
  have h0a : ∀ o, (w.alloc o).cell? ⟨q, 0, none⟩ = some (.slice ao rs.length cap) := fun o => ((Keeps.refl w (fun _ => False)).alloc o).cell' h0 id
  have hmk := make_reads rs.length (by omega)
  clear hI hq
  go_enter Try.func18, Try.ntmps18
  go_wp2_with (with_reducible show wpList Try.prog _ _ (Oper.mk (some 15) _ _ _ _ _ :: _) _ _; refine wpList_copy_all rfl (.tmp 10) (.tmp 14) 44 rfl 50 2 Try.underlying44 size50 rs.length rs.length w.heap.size (madeCells #[.int .i64 0, .int .i64 0] (rs.length * 2)) 50 50 _ (readCells rs) rfl rfl ?hg ?hcur ?hown (readCells_one rs) w.heap.size w ?hb (Nat.le_refl _) ?_)
  case hg => exact heap_alloc_new w _
  case hcur => exact size_madeCells _ _
  case hown => exact HF.out.2.1.alloc _
  case hb => exact (Below.refl _ _).alloc (Nat.le_refl _) _
  intro w1 HG1 hB1
  go_wp2
  go_ret
  exact ⟨rfl, HG1.out, hB1⟩

theorem watched_any (ao : Option Addr) (n cap : Nat) (place : Int) (q0 q : Option Nat) (w : World) :
    Calls Try.prog 15 #[viewV ao n cap place q0, .pointer (q.map fun b => ⟨b, 0, none⟩)] w fun e w' => e = .returned (viewV ao n cap place q) ∧ Keeps w w' (fun _ => False) := by
  unfold viewV
  go_enter Try.func15, Try.ntmps15
  go_wp2
  refine bodyPost_ret (v := .agg #[.slice ao n cap, .int .i64 place, .pointer (q.map fun b => ⟨b, 0, none⟩)]) (by simp [results, Try.results15, go_sem]) rfl ⟨rfl, ?_⟩
  exact ((Keeps.refl _ _).alloc _).alloc _
end Go.Proofs.Ytomlndoffoeaiaa.Kit
