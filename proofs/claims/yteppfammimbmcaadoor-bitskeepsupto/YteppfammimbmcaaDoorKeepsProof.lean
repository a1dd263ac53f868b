import Derived.Test.YteppfammimbmcaaDoorCards
import Derived.Test.YteppfammimbmcaaDoorTie
import Derived.Test.YteppfammimbmcaaDoorRead
import Derived.Test.YteppfammimbmcaaDoorKG
namespace Go.Proofs.YteppfammimbmcaaDoor.bitsKeepsP
open Go.ChangeShapes Go.WideShapes Go.ChangeAt Go.RowKit Go.Deep
open Go.Proofs.YteppfammimbmcaaDoor.bitsR
set_option linter.unusedVariables false

theorem map_len {H : Type} {enc : TypeId × Value → H} {W : World} {fuel : Nat} {a : Option Addr} {n c : Nat} {d : DataW H} {p : List MemPlace}
    (h : DataW.trod enc Tryd.prog W 0 (fun _ => true) true fuel 24 [.slice a n c] = some (d, p)) (hb : Rows.uptoBulk d ≤ 1048576) : n ≤ 1048576 := by
  rcases open_slice1 Tryd.underlying24 cells5 h with ⟨hcs, _⟩ | ⟨a, len, cap, m, n, V, D, Pl, hcs, _, hl, hm, hmm, hx, hc⟩
  · simp at hcs
    omega
  · simp at hcs
    simp only [Prod.mk.injEq] at hx
    rw [hx.1] at hb
    simp only [Rows.uptoBulk] at hb
    have := length_le ((List.range m).map D)
    simp at this
    simp only [if_true] at hmm
    have := length_le ((List.range len).map D)
    simp at this
    subst hmm
    omega
theorem bools_len {H : Type} {enc : TypeId × Value → H} {W : World} {fuel : Nat} {a : Option Addr} {n c : Nat} {d : DataW H} {p : List MemPlace}
    (h : DataW.trod enc Tryd.prog W 0 (fun _ => true) true fuel 25 [.slice a n c] = some (d, p)) (hb : Rows.uptoBulk d ≤ 1048576) : n ≤ 1048576 := by
  rcases open_slice1 Tryd.underlying25 cells4 h with ⟨hcs, _⟩ | ⟨a, len, cap, m, n, V, D, Pl, hcs, _, hl, hm, hmm, hx, hc⟩
  · simp at hcs
    omega
  · simp at hcs
    simp only [Prod.mk.injEq] at hx
    rw [hx.1] at hb
    simp only [Rows.uptoBulk] at hb
    simp only [if_true] at hmm
    have := length_le ((List.range len).map D)
    simp at this
    subst hmm
    omega
set_option maxRecDepth 100000 in
/-- how long an op's lists are -/
theorem op_len {H : Type} {enc : TypeId × Value → H} {W : World} {fuel : Nat} {c0 c4 c5 c6 c7 : Value} {a1 a2 a3 : Option Addr} {n1 n2 n3 q1 q2 q3 : Nat} {d : DataW H} {p : List MemPlace}
    (h : DataW.trod enc Tryd.prog W 0 (fun _ => true) true fuel 31 [c0, .slice a1 n1 q1, .slice a2 n2 q2, .slice a3 n3 q3, c4, c5, c6, c7] = some (d, p)) (hb : Rows.uptoBulk d ≤ 1048576) : n1 ≤ 1048576 ∧ n2 ≤ 1048576 ∧ n3 ≤ 1048576 := by
  obtain ⟨xs, m, _, hd, _, hxs, hf⟩ := DataW.trod_struct Tryd.underlying31 h
  obtain ⟨y0, y1, y2, y3, y4, y5, y6, y7, rfl⟩ := eight xs (hxs.trans rfl)
  have f1 : DataW.trod enc Tryd.prog W 0 (fun _ => true) true m 24 ((([c0, .slice a1 n1 q1, .slice a2 n2 q2, .slice a3 n3 q3, c4, c5, c6, c7] : List Value).drop 1).take (Tryd.prog.cellsOf 24)) = some y1 := hf 1 _ rfl
  have f2 : DataW.trod enc Tryd.prog W 0 (fun _ => true) true m 24 ((([c0, .slice a1 n1 q1, .slice a2 n2 q2, .slice a3 n3 q3, c4, c5, c6, c7] : List Value).drop 2).take (Tryd.prog.cellsOf 24)) = some y2 := hf 2 _ rfl
  have f3 : DataW.trod enc Tryd.prog W 0 (fun _ => true) true m 25 ((([c0, .slice a1 n1 q1, .slice a2 n2 q2, .slice a3 n3 q3, c4, c5, c6, c7] : List Value).drop 3).take (Tryd.prog.cellsOf 25)) = some y3 := hf 3 _ rfl
  rw [cells24] at f1 f2
  rw [cells25] at f3
  simp only [List.drop_succ_cons, List.drop_zero, List.take_succ_cons, List.take_zero] at f1 f2 f3
  simp only [Prod.mk.injEq] at hd
  have hbk : ∀ y ∈ [y0, y1, y2, y3, y4, y5, y6, y7], Rows.uptoBulk y.1 ≤ 1048576 := fun y hy => by
    rw [hd.1] at hb
    simp only [Rows.uptoBulk] at hb
    have := part_le (List.mem_map_of_mem (f := fun x : DataW H × List MemPlace => x.1) hy)
    omega
  exact ⟨map_len (d := y1.1) (p := y1.2) f1 (hbk y1 (by simp)), map_len (d := y2.1) (p := y2.2) f2 (hbk y2 (by simp)), bools_len (d := y3.1) (p := y3.2) f3 (hbk y3 (by simp))⟩
set_option maxRecDepth 100000 in
/-- an op, read, with its lists' lengths -/
theorem op_read {H : Type} {enc : TypeId × Value → H} {W : World} {fuel : Nat} {cs : List Value} {d : DataW H} {p : List MemPlace}
    (h : DataW.trod enc Tryd.prog W 0 (fun _ => true) true fuel 31 cs = some (d, p)) (hb : Rows.uptoBulk d ≤ 1048576) :
    ∃ (o : Kit.OpD) (ao bo lo : Option Addr) (ca cb cl : Nat), cs = [.int .i64 o.kind, .slice ao o.a.length ca, .slice bo o.b.length cb, .slice lo o.l.length cl, .int .i64 o.fr, .int .i64 o.n, .int .i64 o.k, .bool o.on] ∧
      Kit.MapAt W (.slice ao o.a.length ca) o.a ∧ Kit.MapAt W (.slice bo o.b.length cb) o.b ∧ Kit.BoolsAt W lo o.l.length (fun k => o.l.getD k false) ∧ o.a.length ≤ 1048576 ∧ o.b.length ≤ 1048576 ∧ o.l.length ≤ 1048576 ∧ o.ok := by
  have hl : cs.length = 8 := by
    obtain ⟨_, _, _, _, hl, _⟩ := DataW.trod_struct Tryd.underlying31 h
    rw [hl]
    kernel_rfl
  obtain ⟨o, va, vb, vl, rfl, hO⟩ := op_at hl h hb
  obtain ⟨ao, bo, lo, ca, cb, cl, he, hA, hB, hL, _, hok⟩ := hO
  simp only [Kit.opV, Value.agg.injEq] at he
  simp at he
  obtain ⟨rfl, rfl, rfl⟩ := he
  obtain ⟨n1, n2, n3⟩ := op_len h hb
  exact ⟨o, ao, bo, lo, ca, cb, cl, rfl, hA, hB, hL, n1, n2, n3, hok⟩

theorem contract (H : Type) (enc : TypeId × Value → H) (W : World) (base : Nat) (args : Array Value) (ds gs : List (DataW H)) (before : List MemPlace)
    (hval0 : ∀ (j : Nat) t v, Tryd.f4.params[j]? = some t → args[j]? = some v → Value.okWide Tryd.prog W .any base t v)
    (hW : DataW.Whole enc Tryd.prog Tryd.f4.params.toList Rows.bitsKeepsSpec.vars false W args.toList ds gs before) (hk : Rows.uptoSmall H (ds ++ gs) = true) (hL : laidMetH Tryd.prog Rows.bitsKeepsUptoRow.laid W) :
    Calls Tryd.prog 4 args W fun e W' => ∃ v, e = .returned v ∧ Rows.bitsKeepsSpec.post enc Tryd.prog Tryd.f4 false true false false W args v W' := by
  have hW' := hW
  have hval : ∀ (j : Nat) t v, Tryd.f4.params[j]? = some t → args[j]? = some v → Value.okWide Tryd.prog W .any base t v := hval0
  obtain ⟨p, q, hA0, hV, rfl, hfz, hnd⟩ := hW
  have hA : DataW.TrodAll enc Tryd.prog W 0 (fun _ => true) true Tryd.f4.params.toList args.toList ds p := hA0
  rw [Tryd.params4] at hA hval
  obtain ⟨v0, vs0, d0, ds0, p0, q0, hargs, rfl, rfl, h0, r0⟩ := trodAll_cons hA
  obtain ⟨v1, vs1, d1, ds1, p1, q1, hargs1, rfl, rfl, h1, r1⟩ := trodAll_cons r0
  obtain ⟨rfl, rfl, rfl⟩ := trodAll_nil r1
  obtain rfl : args = #[v0, v1] := by cases args; simp_all
  obtain ⟨rfl, rfl⟩ := trodVars_none hV
  obtain ⟨cs, rfl, hcs⟩ := okWide_struct Tryd.underlying31 (hval 0 31 v0 rfl rfl)
  obtain ⟨ps, rfl, hps⟩ := okWide_struct Tryd.underlying31 (hval 1 31 v1 rfl rfl)
  have k0 := h0
  have k1 := h1
  have lt0 : ∀ x ∈ p0, x.block < W.heap.size := by obtain ⟨m, hm⟩ := k0; exact DataW.trod_lt m _ _ _ hm
  have lt1 : ∀ x ∈ p1, x.block < W.heap.size := by obtain ⟨m, hm⟩ := k1; exact DataW.trod_lt m _ _ _ hm
  have hb : Rows.uptoBulk d0 ≤ 1048576 ∧ Rows.uptoBulk d1 ≤ 1048576 := by
    have h : Rows.uptoBulkAll ([d0, d1] ++ []) ≤ 1048576 := of_decide_eq_true hk
    simp only [List.append_nil, Rows.uptoBulkAll] at h
    omega
  obtain ⟨fuel, hf⟩ := h0
  obtain ⟨fuel1, hf1⟩ := h1
  obtain ⟨o, ao, bo, lo, ca, cb, cl, he, hMA, hMB, hML, n1, n2, n3, hok⟩ := op_read hf hb.1
  obtain ⟨p, po, qo, ro, pa, pb, pl, hp, hPA, hPB, hPL, _, _, m3, hpk⟩ := op_read hf1 hb.2
  obtain rfl : cs = #[.int .i64 o.kind, .slice ao o.a.length ca, .slice bo o.b.length cb, .slice lo o.l.length cl, .int .i64 o.fr, .int .i64 o.n, .int .i64 o.k, .bool o.on] := by
    cases cs; simpa [Value.cells] using he
  obtain rfl : ps = #[.int .i64 p.kind, .slice po p.a.length pa, .slice qo p.b.length pb, .slice ro p.l.length pl, .int .i64 p.fr, .int .i64 p.n, .int .i64 p.k, .bool p.on] := by
    cases ps; simpa [Value.cells] using hp
  clear hA0 hval0
  refine (Kit.keeps_any o p ao bo lo po qo ro ca cb cl pa pb pl W (table hL) hMA hMB hML (by omega) (by omega) (by omega) hok ⟨po, qo, ro, pa, pb, pl, rfl, hPA, hPB, hPL, by omega, hpk⟩).mono fun e W' ⟨he, hkeep⟩ => ?_
  subst he
  have bel : Below W.heap.size W W' := hkeep.below' (Nat.le_refl _)
  exact ⟨_, rfl, _, _, _, [], _, [], hW', trodAll_mk1 (shut_bool Tryd.underlying4 _), (trodAll_cons_mk (Below.trod laidOut (by kernel_rfl) (of_decide_eq_true (by kernel_rfl)) k0 bel lt0) (trodAll_cons_mk (Below.trod laidOut (by kernel_rfl) (of_decide_eq_true (by kernel_rfl)) k1 bel lt1) trodAll_mk0)), rfl, bel.frame _, fun h => by cases h⟩

/-- a world for the witness -/
noncomputable def laidWorld (os : Os) : World :=
  { World.holding Tryd.prog os ⟨#[], #[], []⟩ with heap := (World.holding Tryd.prog os ⟨#[], #[], []⟩).heap.modify 0 fun
      | .cells _ t frozen => .cells #[.int .u8 0, .int .u8 1, .int .u8 1, .int .u8 2, .int .u8 1, .int .u8 2, .int .u8 2, .int .u8 3, .int .u8 1, .int .u8 2, .int .u8 2, .int .u8 3, .int .u8 2, .int .u8 3, .int .u8 3, .int .u8 4] t frozen
      | o => o }
theorem laid_met (os : Os) : laidMet Tryd.prog Rows.bitsKeepsUptoRow.laid ((laidWorld os).forCall (fun _ _ => 0) ⟨#[], #[.agg #[.int .i64 0, .slice none 0 0, .slice none 0 0, .slice none 0 0, .int .i64 0, .int .i64 0, .int .i64 0, .bool false], .agg #[.int .i64 0, .slice none 0 0, .slice none 0 0, .slice none 0 0, .int .i64 0, .int .i64 0, .int .i64 0, .bool false]], []⟩).memory :=
  laidMet_of_run' 24 (by kernel_rfl) (by kernel_rfl)
theorem reads (os : Os) {H : Type} (enc : TypeId × Value → H) : ∃ places, DataW.whole enc Tryd.prog ((laidWorld os).forCall (fun _ _ => 0) ⟨#[], #[.agg #[.int .i64 0, .slice none 0 0, .slice none 0 0, .slice none 0 0, .int .i64 0, .int .i64 0, .int .i64 0, .bool false], .agg #[.int .i64 0, .slice none 0 0, .slice none 0 0, .slice none 0 0, .int .i64 0, .int .i64 0, .int .i64 0, .bool false]], []⟩).memory Tryd.f4.params.toList Rows.bitsKeepsSpec.vars false #[Value.agg #[.int .i64 0, .slice none 0 0, .slice none 0 0, .slice none 0 0, .int .i64 0, .int .i64 0, .int .i64 0, .bool false], Value.agg #[.int .i64 0, .slice none 0 0, .slice none 0 0, .slice none 0 0, .int .i64 0, .int .i64 0, .int .i64 0, .bool false]].toList 8 = some ([.agg [.lit (.int .i64 0), .nil, .nil, .nil, .lit (.int .i64 0), .lit (.int .i64 0), .lit (.int .i64 0), .lit (.bool false)], .agg [.lit (.int .i64 0), .nil, .nil, .nil, .lit (.int .i64 0), .lit (.int .i64 0), .lit (.int .i64 0), .lit (.bool false)]], [], places) :=
  ⟨[], by kernel_rfl⟩

set_option maxRecDepth 100000 in
theorem liftedUpto (os : Os) (started : os.Started) (H : Type) (enc : TypeId × Value → H) (F : Stop.Interp) :
    ReturnsInHanded {} Tryd.checked os 4 .any ((Rows.OpenSpec.upto Rows.bitsKeepsSpec).preRow enc Tryd.prog Tryd.f4 Rows.bitsKeepsUptoRow.domain false Rows.bitsKeepsUptoRow.laid) (((Rows.OpenSpec.upto Rows.bitsKeepsSpec).at F).post enc Tryd.prog Tryd.f4 false true false false) := by
  obtain ⟨places, hx⟩ := reads os enc
  refine returnsInHanded_of_row (C := Tryd.checked) (s := Rows.OpenSpec.upto Rows.bitsKeepsSpec) own started (by kernel_rfl) Tryd.func4
    (witness_row_at (enc := enc) (C := Tryd.checked) false (laidWorld os) #[.agg #[.int .i64 0, .slice none 0 0, .slice none 0 0, .slice none 0 0, .int .i64 0, .int .i64 0, .int .i64 0, .bool false], .agg #[.int .i64 0, .slice none 0 0, .slice none 0 0, .slice none 0 0, .int .i64 0, .int .i64 0, .int .i64 0, .bool false]] rfl (by kernel_rfl) (by kernel_rfl) (by kernel_rfl)
      (OpenSpec.preRow_of_cond 8 hx (by kernel_rfl) (fun k hk => by cases hk; kernel_rfl) (by kernel_rfl) (laid_met os))) ?_
  intro W base args ds gs before hval hW _ hcond _ hL _ _
  exact contract H enc W base args ds gs before hval hW (hcond _ rfl) hL

theorem saidUpto : Rows.BitsKeepsUptoSaid :=
  OpenClaim.holds_of_cond 4 Tryd.f4 rfl rfl rfl rfl rfl rfl rfl ⟨rfl, rfl, rfl, rfl, rfl⟩ rfl rfl rfl rfl rfl (by kernel_rfl) Tryd.func4 (by kernel_rfl)
    (of_decide_eq_true (by kernel_rfl)) (by unfold Func.isWrapper; first | (rw [if_pos (by decide +kernel)]; kernel_rfl) | (rw [if_neg (by decide +kernel)]; exact ⟨rfl, rfl⟩))
    (fun os started H enc _ F => by rw [OpenClaim.pre_eq_preRow]; exact liftedUpto os started H enc F)

theorem plain (f : FuncId) (fn : Func) (hf : Tryd.pinned.checked.prog.funcNamed "colonnade/colonnadelaw02.BitsKeeps" = some f) (hfn : Tryd.pinned.checked.prog.funcs[f]? = some fn) :
    false = Tryd.pinned.checked.prog.looks [] ∧ ∀ (j : Nat) t, fn.params[j]? = some t → Tryd.pinned.checked.prog.wantsStandIn t = false := by
  obtain rfl : f = 4 := Option.some.inj ((show Tryd.prog.funcNamed "colonnade/colonnadelaw02.BitsKeeps" = some 4 by kernel_rfl).symm.trans hf) |>.symm
  obtain rfl : fn = Tryd.f4 := (Option.some.inj (Tryd.func4.symm.trans hfn)).symm
  refine ⟨by kernel_rfl, fun j t ht => ?_⟩
  rw [Tryd.params4] at ht
  obtain rfl : t = 31 := by simpa using Array.mem_of_getElem? ht
  exact (show Tryd.prog.wantsStandIn 31 = false by kernel_rfl)
end Go.Proofs.YteppfammimbmcaaDoor.bitsKeepsP
namespace Go.Proofs.YteppfammimbmcaaDoor
theorem bitsKeepsUpto_holds : Rows.BitsKeepsUptoCardSaid :=
  Claim7.holds_tied_plain_at .later [] _ _ _ _ bitsKeepsP.saidUpto (fun _ h => by cases h) (by kernel_rfl) (fun _ h => by cases h) bitsKeepsUpto_row_tie rfl ⟨rfl, rfl⟩ (by kernel_rfl) rfl bitsKeepsP.plain (by kernel_rfl)
end Go.Proofs.YteppfammimbmcaaDoor
