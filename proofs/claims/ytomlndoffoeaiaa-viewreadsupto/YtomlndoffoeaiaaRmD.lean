import Derived.Test.YtomlndoffoeaiaaRmC
import Derived.Test.YtomlndoffoeaiaaReadsW
namespace Go.Proofs.Ytomlndoffoeaiaa.Kit
open Go.RowKit Go.Deep
set_option linter.unusedVariables false

theorem info22 : (Try.prog.info? 22).map (fun i => (i.zero, i.size, i.bytes)) = some (some (.slice none 0 0), 1, 24) := by kernel_rfl
theorem info91 : (Try.prog.info? 91).map (fun i => (i.zero, i.size, i.bytes)) = some (some (.agg #[.slice none 0 0, .int .i64 0]), 2, 32) := by kernel_rfl
theorem src1 {W : World} (it et : Nat) (hu : Try.prog.underlying it = some (.slice et)) (u : Value) (h1 : u.oneCell' = true) : Src Try.prog 1 it (.slice (some ⟨W.heap.size, 0, none⟩) 1 1) 1 [u] (W.alloc (.cells #[u] et)) := by
  refine Src.ofSlice _ hu _ _ _ _ rfl ?_ (by simp [h1])
  intro j v hj
  match j, hj with
  | 0, hj => simp at hj; subst hj; simp [Addr.add]
theorem src2d {W : World} (it et : Nat) (hu : Try.prog.underlying it = some (.slice et)) (u v : Value) (h1 : u.oneCell' = true) (h2 : v.oneCell' = true) : Src Try.prog 2 it (.slice (some ⟨W.heap.size, 0, none⟩) 1 1) 1 [u, v] (W.alloc (.cells #[u, v] et)).drew := by
  refine Src.ofSlice _ hu _ _ _ _ rfl ?_ (by simp [h1, h2])
  intro j v hj
  match j, hj with
  | 0, hj => simp at hj; subst hj; simp [Addr.add]
  | 1, hj => simp at hj; subst hj; simp [Addr.add]
theorem make_bytes (n : Nat) (h : n ≤ 281474976710656) : ∀ w, (Instr.makeSlice 22 (.int .i64 (n : Int)) (.int .i64 (n : Int))).run Try.prog w = .ok (.slice (some ⟨w.heap.size, 0, none⟩) n n) (w.alloc (.cells (madeCells #[.int .u8 0] (n * 1)) 5)) := by
  intro w
  obtain ⟨i, hi, hzz⟩ := Option.map_eq_some_iff.1 info5
  simp only [Prod.mk.injEq] at hzz
  obtain ⟨hz, hs, hb⟩ := hzz
  have hb' : (i.bytes : Int) * (n : Int) ≤ 281474976710656 := by rw [hb]; omega
  have hr := run_make (P := Try.prog) w 22 5 i _ Try.underlying22 hi hz .i64 .i64 n n (by omega) (Int.le_refl _) hb' (by omega)
  simp only [Int.toNat_natCast, hs] at hr
  exact hr
/-! ### a list of bytes that has no room, or is one's own -/
def Fl (w0 w : World) (v : Value) (n : Nat) : Prop := Keeps w0 w (fun _ => False) ∧ ((∃ ao l, v = .slice ao n n ∧ BytesAt w ao n l) ∨ ∃ xs, w.ownsRow 0 5 1 v n xs ∧ ∀ g, v.ownBlock = some g → w0.heap.size ≤ g)
theorem Fl.to {w0 w w' : World} {v : Value} {n : Nat} (h : Fl w0 w v n) (k : Keeps w w' (fun _ => False)) : Fl w0 w' v n := by
  obtain ⟨h1, h2⟩ := h
  refine ⟨h1.trans k fun _ _ e => e, ?_⟩
  rcases h2 with ⟨ao, l, e, hb⟩ | ⟨xs, ho, hn⟩
  · exact .inl ⟨ao, l, e, hb.kept k fun _ _ _ _ => id⟩
  · exact .inr ⟨xs, ownN_kept ho k fun _ _ => id, hn⟩
theorem Fl.form {w0 w : World} {v : Value} {n : Nat} (h : Fl w0 w v n) : ∃ ao cap, v = .slice ao n cap := by
  rcases h.2 with ⟨ao, l, e, hb⟩ | ⟨xs, ho, hn⟩
  · exact ⟨ao, n, e⟩
  · exact ownN_form ho
theorem fl_append (ty : TypeId) {w0 w : World} {v x : Value} {n : Nat} {u : Value} (h : Fl w0 w v n) (hs : Src Try.prog 1 22 x 1 [u] w) (hn : n ≤ 1000000000000) :
    ∃ v' w', (Builtin.append_ #[22, 22] ty #[v, x]).run Try.prog w = .ok v' w' ∧ Fl w0 w' v' (n + 1) := by
  obtain ⟨i, hi, hzz⟩ := Option.map_eq_some_iff.1 info5
  simp only [Prod.mk.injEq] at hzz
  obtain ⟨hz, hsz, hb⟩ := hzz
  obtain ⟨h1, h2⟩ := h
  rcases h2 with ⟨ao, l, rfl, hby⟩ | ⟨xs, ho, hnew⟩
  · have hold : ∃ olds : List Value, olds.length = n ∧ (Builtin.firstCells 1 n (.slice ao n n)).run Try.prog w.drew = .ok olds.toArray w.drew := by
      by_cases h0 : n = 0
      · subst h0
        refine ⟨[], rfl, ?_⟩
        cases ao with
        | none => exact run_firstCells_none _ 1 0 0 0
        | some a => exact run_firstCells_some _ 1 0 a 0 0 [] rfl (fun j v hj => by simp at hj)
      · obtain ⟨b, off, rfl, hc⟩ := hby (by omega)
        refine ⟨(List.range n).map fun k => .int .u8 (l.getD k 0), by simp, run_firstCells_some _ 1 n _ n n _ (by simp) (fun j v hj => ?_)⟩
        rw [List.getElem?_map] at hj
        by_cases hjn : j < n
        · rw [List.getElem?_range hjn] at hj
          simp only [Option.map_some, Option.some.injEq] at hj
          subst hj
          have := hc j hjn
          rw [Addr.add_lit]
          simpa using this
        · rw [List.getElem?_eq_none (by simp; omega)] at hj
          cases hj
    obtain ⟨olds, hol, hold⟩ := hold
    have hr := run_append_grow_src (P := Try.prog) w 22 22 ty 5 i (.int .u8 0) Try.underlying22 hi hz ao n n olds (by rw [hsz]; exact hold) x 1 [u] (by rw [hsz]; exact hs) (by omega) (by omega) (growslice_fits (by omega) (by rw [hb]; omega))
    refine ⟨_, _, hr, (h1.drew.alloc _), .inr ⟨olds ++ [u], ?_, fun g e => ?_⟩⟩
    · have hge := grownCap_ge w (n + 1) n 5
      have hcm : grownCap w (n + 1) n 5 ≤ maxLen := grownCap_le_maxLen w (n + 1) n 5 (by simp only [maxLen]; omega)
      refine ⟨by simp [hol], .inr ⟨w.heap.size, _, _, rfl, Nat.zero_le _, heap_alloc_new w.drew _, hge, hcm, ?_, ?_⟩⟩
      · simp only [Array.size_append, List.size_toArray, size_zeroCells, List.length_append, hol, List.length_singleton]
        have : (Value.int .u8 0).cells.size = 1 := rfl
        rw [this]
        omega
      · simp only [Array.toList_append]
        have : (n + 1) * 1 = (olds ++ [u]).length := by simp [hol]
        rw [this]
        exact List.take_left
    · simp [Value.ownBlock] at e
      have := h1.size
      omega
  · obtain ⟨v', w', hr, h3, h4, h5⟩ := run_append_any (P := Try.prog) w 22 22 ty 5 i (.int .u8 0) 1 Try.underlying22 hi hz hsz hb rfl v n xs ho x 1 [u] hs (by omega) (by omega)
    refine ⟨v', w', hr, h1.trans (Keeps.ofGrown h4) (fun j hj e => ?_), .inr ⟨_, h3, fun g e => ?_⟩⟩
    · have := hnew j e
      omega
    · rcases h5 with h5 | h5
      · exact hnew g (h5 ▸ e)
      · exact Nat.le_trans h1.size (h5 g e)
theorem wpList_append_fl {w : World} {ops : Array Oper} {rest : List Oper} {o : Oper} {a : Act} {Q : Exit → Act → World → Prop} (hgd : o.guard = none) (s x : Operand)
    (ho : o.op = .call { callee := .builtin .append, args := #[s, x], argTypes := #[22, 22] }) (w0 : World) (v : Value) (n : Nat) (hv : a.eval s = v) (hf : Fl w0 w v n) (y : Value) (u : Value) (hx : a.eval x = y) (hs : Src Try.prog 1 22 y 1 [u] w) (hn : n ≤ 1000000000000)
    (h : ∀ v' w', Fl w0 w' v' (n + 1) → wpList Try.prog ops Q rest (a.put o.dst v') w') : wpList Try.prog ops Q (o :: rest) a w := by
  refine wpList_plain hgd fun K hK => ?_
  obtain ⟨v', w', hr, h2⟩ := fl_append o.type hf hs hn
  unfold Oper.wp
  simp [execOp, ho, resolve, invoke, builtin, hv, hx, hr, Result.andThen]
  exact hK _ _ (h v' w' h2)
theorem setW_rest (g : Gh) (who : Nat) (q : Option Nat) (rs : List (Int × Int)) : (setW g who q rs).t1 = g.t1 ∧ (setW g who q rs).t2 = g.t2 ∧ (setW g who q rs).D9 = g.D9 ∧ (setW g who q rs).L = g.L ∧ (setW g who q rs).S = g.S ∧ (setW g who q rs).N1 = g.N1 ∧ (setW g who q rs).N2 = g.N2 ∧ (setW g who q rs).N4 = g.N4 ∧ (setW g who q rs).N8 = g.N8 := by
  unfold setW
  split <;> exact ⟨rfl, rfl, rfl, rfl, rfl, rfl, rfl, rfl, rfl⟩
theorem setT_rest (g : Gh) (who : Nat) (v : Value) (rs : List (Int × Int)) : (setT g who v rs).D9 = g.D9 ∧ (setT g who v rs).L = g.L ∧ (setT g who v rs).S = g.S ∧ (setT g who v rs).N1 = g.N1 ∧ (setT g who v rs).N2 = g.N2 ∧ (setT g who v rs).N4 = g.N4 ∧ (setT g who v rs).N8 = g.N8 := by
  unfold setT
  split <;> exact ⟨rfl, rfl, rfl, rfl, rfl, rfl, rfl⟩
theorem Ok.raw {c : Cn} {g : Gh} {k : Nat} {s : Sn} {a b : Value} (h : Ok c g k) (hs : SnOk c s) (hd : g.D9.length + 1 ≤ k) : Ok c { { g with v9 := a, D9 := g.D9 ++ [s] } with v10 := b, D10 := g.D10 ++ [s] } k :=
  { h with
    d := by show g.D9 ++ [s] = g.D10 ++ [s]; rw [h.d]
    d9 := fun x hx => by
      rcases List.mem_append.1 hx with e | e
      · exact h.d9 x e
      · simp at e; subst e; exact hs
    b9 := by show (g.D9 ++ [s]).length ≤ k; simpa using hd }
end Go.Proofs.Ytomlndoffoeaiaa.Kit
