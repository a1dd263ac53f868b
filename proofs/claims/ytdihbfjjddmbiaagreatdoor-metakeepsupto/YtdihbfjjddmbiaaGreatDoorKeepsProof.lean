import Derived.Test.YtdihbfjjddmbiaaGreatDoorCards
import Derived.Test.YtdihbfjjddmbiaaGreatDoorTie
import Derived.Test.YtdihbfjjddmbiaaGreatDoorYO
import Derived.Test.YtdihbfjjddmbiaaGreatDoorSJ
import Derived.Laws.EntriesVeiled
set_option maxRecDepth 100000
set_option maxHeartbeats 4000000
namespace Go.Proofs.YtdihbfjjddmbiaaGreatDoor.metaKeepsP
open Go.ChangeShapes Go.WideShapes Go.ChangeAt Go.RowKit Go.Deep
open Go.Proofs.YtdihbfjjddmbiaaGreatDoor.kindR
set_option linter.unusedVariables false
theorem own : ownKnob Tryz.prog.godebug = none := by kernel_rfl
theorem laidOut : laidOutB Tryz.prog = true := by kernel_rfl
theorem table1 {W : World} (h : laidMet Tryz.prog [("colonnade/kind.kinds", Rows.laid_colonnade_kind_kinds)] W) : Kit.Tab W := by
  obtain ⟨ps, ⟨g', t', cs, fuel, p, q, hg', ht', hvar, hd, _, _⟩, _⟩ := h
  obtain rfl := Option.some.inj (gKinds.symm.trans hg')
  obtain rfl := Option.some.inj (gKindsT.symm.trans ht')
  rw [laid_rows] at hd
  obtain ⟨xs, m, _, he, hl, hx, hf⟩ := DataW.trod_array Tryz.underlying142 hd
  rw [cells86] at hl
  rw [cells85] at hf
  simp only [Prod.mk.injEq, DataW.agg.injEq] at he
  have hcell := fun i => World.var?_cell gKinds hvar i
  have hsz : cs.size = 105 := by simpa using hl
  refine ⟨?_, fun k hk => ?_⟩
  · have := hcell 0
    rw [Array.getElem?_eq_getElem (by omega)] at this
    have := block_lt_of_cell this
    exact this
  have h1 := hf k hk
  rw [List.getElem?_eq_getElem (by omega)] at h1
  have h2 : (xs[k]'(by omega)).1 = rowD k := by
    have := congrArg (·[k]?) he.1
    simp only [List.getElem?_map, List.getElem?_range hk, Option.map_some] at this
    rw [List.getElem?_eq_getElem (by omega)] at this
    simpa using this.symm
  have h3 := row_at (k := k) (p := (xs[k]'(by omega)).2) (by rw [h1, ← h2])
  have h4 : ∀ j, j < 5 → cs[k * 5 + j]? = ([.string ⟨(Kit.wordK k).toArray⟩, .int .i64 (Kit.bytesK k), .int .i64 (Kit.bufsK k), .int .i64 (Kit.leastK k), .int .i64 (Kit.mostK k)] : List Value)[j]? := fun j hj => by
    rw [← h3, List.getElem?_take_of_lt hj, List.getElem?_drop, Array.getElem?_toList]
  exact ⟨(hcell _).trans (h4 0 (by decide)), (hcell _).trans (h4 1 (by decide)), (hcell _).trans (h4 2 (by decide)), (hcell _).trans (h4 3 (by decide)), (hcell _).trans (h4 4 (by decide))⟩
theorem u8_bd {n : Int} (h : (Lit.int .u8 n).wf = true) : 0 ≤ n ∧ n < 256 := by
  have h1 : IntKind.u8.min = 0 := rfl
  have h2 : IntKind.u8.max = 255 := rfl
  simp only [Lit.wf, Bool.and_eq_true, decide_eq_true_eq] at h
  omega
theorem bytes_at {H : Type} {enc : TypeId × Value → H} {W : World} {fuel : Nat} {v : Value} {d : DataW H} {p : List MemPlace} (hf : DataW.trod enc Tryz.prog W 0 (fun _ => true) true fuel 30 [v] = some (d, p)) (hw : Rows.uptoBulk d ≤ 1048576) :
    ∃ ao bs ca, v = .slice ao (bs : List UInt8).length ca ∧ bs.length ≤ 1048576 ∧ Kit.BytesAt W ao bs := by
  rcases open_ints Tryz.underlying30 Tryz.underlying5 (by kernel_rfl) hf with ⟨hcs, _⟩ | ⟨x, l, c, zs, hcs, _, hl, hm, hz, hx, hcell, hwz⟩
  · simp at hcs
    subst hcs
    exact ⟨none, [], 0, rfl, by simp, fun h => absurd rfl h⟩
  simp at hcs
  subst hcs
  have hd : d = .slice (lits .u8 (zs.take l)) (lits .u8 (zs.drop l)) := by simpa using congrArg Prod.fst hx
  subst hd
  have hs := length_le (lits .u8 (zs.take l) : List (DataW H))
  simp only [Rows.uptoBulk] at hw
  simp only [lits, List.length_map, List.length_take] at hs
  have hz' : zs.length = c := by simpa using hz
  refine ⟨some x, (zs.take l).map fun z => UInt8.ofNat z.toNat, c, by congr 1; simp; omega, by simp only [lits] at hw; simp; omega, fun hn => ?_⟩
  have h0 : 0 < l := by
    cases l with
    | zero => simp at hn
    | succ n => omega
  obtain ⟨b, off, spot⟩ := x
  have hc := hcell 0 (by omega)
  have hspot : spot = none := by simpa [Addr.add] using World.cell?_spot hc
  subst hspot
  refine ⟨b, off, rfl, fun k hk => ?_⟩
  have hk' : k < l := by simp at hk; omega
  have hck := hcell k (by omega)
  rw [add0] at hck
  rw [hck]
  have hzk : k < zs.length := by omega
  have hb := u8_bd (hwz zs[k] (List.getElem_mem hzk))
  simp only [List.getElem_map, List.getElem_take]
  rw [UInt8.toNat_ofNat']
  have e : zs.getD k 0 = zs[k] := by simp [List.getD, hzk]
  first | rw [e] | skip
  congr 2
  omega
theorem okWide_form {W : World} {base : Nat} {bo : Option Addr} {n cap : Nat} (h : Value.okWide Tryz.prog W .any base 30 (.slice bo n cap)) : (n ≤ cap ∧ cap ≤ 9223372036854775807 ∧ (bo = none ∧ cap = 0 ∨ ∃ b o, bo = some ⟨b, o, none⟩)) ∧ ∀ b o, bo = some ⟨b, o, none⟩ → b < W.heap.size := by
  simp only [Value.okWide, Tryz.underlying30, Cell.okWide] at h
  unfold Cell.ok at h
  simp only [Tryz.underlying30] at h
  cases bo with
  | none =>
    cases n with
    | zero =>
      cases cap with
      | zero => exact ⟨⟨Nat.le_refl _, by omega, .inl ⟨rfl, rfl⟩⟩, fun b o e => by cases e⟩
      | succ c => exact h.elim
    | succ m => exact h.elim
  | some a =>
    obtain ⟨h1, h2, _, h3, row, cells, h4, _⟩ := h
    obtain ⟨b, o, spot⟩ := a
    dsimp only at h3 h4
    subst h3
    have h5 : (cap : Int) ≤ 9223372036854775807 := h2
    refine ⟨⟨h1, by omega, .inr ⟨b, o, rfl⟩⟩, fun b' o' e => ?_⟩
    cases e
    unfold World.shape? at h4
    cases hh : W.heap[b]? with
    | none => rw [hh] at h4; simp at h4
    | some ob => exact (Array.getElem?_eq_some_iff.1 hh).1
theorem contract (H : Type) (enc : TypeId × Value → H) (W : World) (base : Nat) (args : Array Value) (ds gs : List (DataW H)) (before : List MemPlace)
    (hval0 : ∀ (j : Nat) t v, Tryz.f3.params[j]? = some t → args[j]? = some v → Value.okWide Tryz.prog W .any base t v)
    (hW : DataW.Whole enc Tryz.prog Tryz.f3.params.toList Rows.metaKeepsSpec.vars false W args.toList ds gs before) (hk : Rows.uptoSmall H (ds ++ gs) = true) (hL : laidMetH Tryz.prog Rows.metaKeepsUptoRow.laid W) :
    Calls Tryz.prog 3 args W fun e W' => ∃ v, e = .returned v ∧ Rows.metaKeepsSpec.post enc Tryz.prog Tryz.f3 false true false false W args v W' := by
  have hW' := hW
  have hval : ∀ (j : Nat) t v, Tryz.f3.params[j]? = some t → args[j]? = some v → Value.okWide Tryz.prog W .any base t v := hval0
  obtain ⟨p, q, hA0, hV, rfl, hfz, hnd⟩ := hW
  have hA : DataW.TrodAll enc Tryz.prog W 0 (fun _ => true) true Tryz.f3.params.toList args.toList ds p := hA0
  rw [Tryz.params3] at hA hval
  obtain ⟨v0, vs0, d0, ds0, p0, q0, hargs, rfl, rfl, h0, r0⟩ := trodAll_cons hA
  obtain ⟨v1, vs1, d1, ds1, p1, q1, rfl, rfl, rfl, h1, r1⟩ := trodAll_cons r0
  obtain ⟨rfl, rfl, rfl⟩ := trodAll_nil r1
  obtain rfl : args = #[v0, v1] := by cases args; simp_all
  obtain ⟨rfl, rfl⟩ := trodVars_none hV
  obtain ⟨cs0, rfl, hc0⟩ := okWide_struct Tryz.underlying29 (hval 0 29 v0 rfl rfl)
  rw [cells29] at hc0
  have hv1 := hval 1 30 v1 rfl rfl
  obtain ⟨a1, len1, cap1, rfl⟩ := okWide_slice Tryz.underlying30 hv1
  have k0 := h0
  have lt0 : ∀ x ∈ p0, x.block < W.heap.size := by obtain ⟨m, hm⟩ := k0; exact DataW.trod_lt m _ _ _ hm
  have k1 := h1
  have lt1 : ∀ x ∈ p1, x.block < W.heap.size := by obtain ⟨m, hm⟩ := k1; exact DataW.trod_lt m _ _ _ hm
  have hb : Rows.uptoBulk d0 ≤ 1048576 ∧ Rows.uptoBulk d1 ≤ 1048576 := by
    have h : Rows.uptoBulkAll ([d0, d1] ++ []) ≤ 1048576 := of_decide_eq_true hk
    simp only [List.append_nil, Rows.uptoBulkAll] at h
    omega
  obtain ⟨fuel0, hf0⟩ := h0
  obtain ⟨fuel1, hf1⟩ := h1
  obtain ⟨mo, M, mc, e1, hMl, hM⟩ := bytes_at hf1 hb.2
  rw [e1] at k1 hW' hv1 ⊢
  have hf := okWide_form hv1
  clear e1
  have hT := table1 hL
  obtain ⟨k, fo, fs, cf, no, ns, cn, di, dl, rows, pr, vo, nds, vc, uo, sls, uc, e0, S0⟩ := head_at (cs := cs0.toList) hT (by simpa using hc0) hf0 hb.1
  obtain rfl : cs0 = #[.int .i64 k, .slice fo fs.length cf, .slice no ns.length cn, .int .i64 di, .bool dl, .int .i64 rows, .int .i64 pr, .slice vo nds.length vc, .slice uo sls.length uc] := by cases cs0; simpa using e0
  clear hA0 hval0
  refine (Kit.keeps_any S0 hM hf.1 (by omega) hf.2).mono fun e W' ⟨he, hkeep⟩ => ?_
  subst he
  have bel : Below W.heap.size W W' := hkeep.below (fun _ _ h => h.elim) (Nat.le_refl _)
  exact ⟨_, rfl, _, _, _, [], _, [], hW', trodAll_mk1 (shut_bool Tryz.underlying4 _), (trodAll_cons_mk (Below.trod laidOut (by kernel_rfl) (of_decide_eq_true (by kernel_rfl)) k0 bel lt0) (trodAll_cons_mk (Below.trod laidOut (by kernel_rfl) (of_decide_eq_true (by kernel_rfl)) k1 bel lt1) trodAll_mk0)), rfl, bel.frame _, fun h => by cases h⟩
def setC (c : Array Value) : Obj → Obj
  | .cells _ t frozen => .cells c t frozen
  | o => o
noncomputable def laidWorld (os : Os) : World :=
  { World.holding Tryz.prog os ⟨#[], #[], []⟩ with heap := (World.holding Tryz.prog os ⟨#[], #[], []⟩).heap.modify 0 (setC #[.string ⟨#[]⟩, .int .i64 0, .int .i64 0, .int .i64 0, .int .i64 0, .string ⟨#[110, 117, 108, 108]⟩, .int .i64 0, .int .i64 0, .int .i64 0, .int .i64 0, .string ⟨#[98, 111, 111, 108]⟩, .int .i64 0, .int .i64 2, .int .i64 0, .int .i64 0, .string ⟨#[105, 110, 116, 56]⟩, .int .i64 1, .int .i64 2, .int .i64 0, .int .i64 0, .string ⟨#[105, 110, 116, 49, 54]⟩, .int .i64 2, .int .i64 2, .int .i64 0, .int .i64 0, .string ⟨#[105, 110, 116, 51, 50]⟩, .int .i64 4, .int .i64 2, .int .i64 0, .int .i64 0, .string ⟨#[105, 110, 116, 54, 52]⟩, .int .i64 8, .int .i64 2, .int .i64 0, .int .i64 0, .string ⟨#[117, 105, 110, 116, 56]⟩, .int .i64 1, .int .i64 2, .int .i64 0, .int .i64 0, .string ⟨#[117, 105, 110, 116, 49, 54]⟩, .int .i64 2, .int .i64 2, .int .i64 0, .int .i64 0, .string ⟨#[117, 105, 110, 116, 51, 50]⟩, .int .i64 4, .int .i64 2, .int .i64 0, .int .i64 0, .string ⟨#[117, 105, 110, 116, 54, 52]⟩, .int .i64 8, .int .i64 2, .int .i64 0, .int .i64 0, .string ⟨#[102, 108, 111, 97, 116, 54, 52]⟩, .int .i64 8, .int .i64 2, .int .i64 0, .int .i64 0, .string ⟨#[116, 101, 120, 116]⟩, .int .i64 0, .int .i64 3, .int .i64 0, .int .i64 0, .string ⟨#[98, 121, 116, 101, 115]⟩, .int .i64 0, .int .i64 3, .int .i64 0, .int .i64 0, .string ⟨#[102, 105, 120, 101, 100]⟩, .int .i64 0, .int .i64 2, .int .i64 0, .int .i64 0, .string ⟨#[108, 105, 115, 116]⟩, .int .i64 0, .int .i64 2, .int .i64 1, .int .i64 1, .string ⟨#[115, 112, 97, 110]⟩, .int .i64 0, .int .i64 1, .int .i64 1, .int .i64 1, .string ⟨#[115, 116, 114, 117, 99, 116]⟩, .int .i64 0, .int .i64 1, .int .i64 0, .int .i64 32, .string ⟨#[99, 104, 111, 105, 99, 101]⟩, .int .i64 0, .int .i64 2, .int .i64 1, .int .i64 32, .string ⟨#[100, 105, 99, 116]⟩, .int .i64 0, .int .i64 2, .int .i64 1, .int .i64 1, .string ⟨#[114, 117, 110, 115]⟩, .int .i64 0, .int .i64 0, .int .i64 1, .int .i64 1]) }
theorem laid_met (os : Os) : laidMet Tryz.prog Rows.metaKeepsUptoRow.laid ((laidWorld os).forCall (fun _ _ => 0) ⟨#[], #[.agg #[.int .i64 0, .slice none 0 0, .slice none 0 0, .int .i64 0, .bool false, .int .i64 0, .int .i64 0, .slice none 0 0, .slice none 0 0], .slice none 0 0], []⟩).memory :=
  laidMet_of_run' 24 (by kernel_rfl) (by kernel_rfl)
theorem reads (os : Os) {H : Type} (enc : TypeId × Value → H) : ∃ places, DataW.whole enc Tryz.prog ((laidWorld os).forCall (fun _ _ => 0) ⟨#[], #[.agg #[.int .i64 0, .slice none 0 0, .slice none 0 0, .int .i64 0, .bool false, .int .i64 0, .int .i64 0, .slice none 0 0, .slice none 0 0], .slice none 0 0], []⟩).memory Tryz.f3.params.toList Rows.metaKeepsSpec.vars false (#[.agg #[.int .i64 0, .slice none 0 0, .slice none 0 0, .int .i64 0, .bool false, .int .i64 0, .int .i64 0, .slice none 0 0, .slice none 0 0], .slice none 0 0] : Array Value).toList 8 = some ([.agg [.lit (.int .i64 0), .agg [.nil, .nil], .lit (.int .i64 0), .lit (.bool false), .lit (.int .i64 0), .lit (.int .i64 0), .nil, .nil], .nil], [], places) :=
  ⟨[], by kernel_rfl⟩
theorem liftedUpto (os : Os) (started : os.Started) (H : Type) (enc : TypeId × Value → H) (F : Stop.Interp) :
    ReturnsInHanded {} Tryz.checked os 3 .any ((Rows.OpenSpec.upto Rows.metaKeepsSpec).preRow enc Tryz.prog Tryz.f3 Rows.metaKeepsUptoRow.domain false Rows.metaKeepsUptoRow.laid) (((Rows.OpenSpec.upto Rows.metaKeepsSpec).at F).post enc Tryz.prog Tryz.f3 false true false false) := by
  obtain ⟨places, hx⟩ := reads os enc
  refine returnsInHanded_of_row (C := Tryz.checked) (s := Rows.OpenSpec.upto Rows.metaKeepsSpec) own started (by kernel_rfl) Tryz.func3
    (witness_row_at (enc := enc) (C := Tryz.checked) false (laidWorld os) #[.agg #[.int .i64 0, .slice none 0 0, .slice none 0 0, .int .i64 0, .bool false, .int .i64 0, .int .i64 0, .slice none 0 0, .slice none 0 0], .slice none 0 0] rfl (by kernel_rfl) (by kernel_rfl) (by kernel_rfl)
      (OpenSpec.preRow_of_cond 8 hx (by kernel_rfl) (fun k hk => by cases hk; kernel_rfl) (by kernel_rfl) (laid_met os))) ?_
  intro W base args ds gs before hval hW _ hcond _ hL _ _
  exact contract H enc W base args ds gs before hval hW (hcond _ rfl) hL
theorem saidUpto : Rows.MetaKeepsUptoSaid :=
  OpenClaim.holds_of_cond 3 Tryz.f3 rfl rfl rfl rfl rfl rfl rfl ⟨rfl, rfl, rfl, rfl, rfl⟩ rfl rfl rfl rfl rfl (by kernel_rfl) Tryz.func3 (by kernel_rfl)
    (of_decide_eq_true (by kernel_rfl)) (by unfold Func.isWrapper; first | (rw [if_pos (by decide +kernel)]; kernel_rfl) | (rw [if_neg (by decide +kernel)]; exact ⟨rfl, rfl⟩))
    (fun os started H enc _ F => by rw [OpenClaim.pre_eq_preRow]; exact liftedUpto os started H enc F)
theorem plain (f : FuncId) (fn : Func) (hf : Tryz.pinned.checked.prog.funcNamed "colonnade/colonnadelaw05.MetaKeeps" = some f) (hfn : Tryz.pinned.checked.prog.funcs[f]? = some fn) :
    true = Tryz.pinned.checked.prog.looks [] ∧ ∀ (j : Nat) t, fn.params[j]? = some t → Tryz.pinned.checked.prog.wantsStandIn t = false := by
  obtain rfl : f = 3 := Option.some.inj ((show Tryz.prog.funcNamed "colonnade/colonnadelaw05.MetaKeeps" = some 3 by kernel_rfl).symm.trans hf) |>.symm
  obtain rfl : fn = Tryz.f3 := (Option.some.inj (Tryz.func3.symm.trans hfn)).symm
  refine ⟨by kernel_rfl, fun j t ht => ?_⟩
  rw [Tryz.params3] at ht
  have hm := Array.mem_of_getElem? ht
  simp at hm
  rcases hm with rfl | rfl
  · exact (show Tryz.prog.wantsStandIn 29 = false by kernel_rfl)
  exact (show Tryz.prog.wantsStandIn 30 = false by kernel_rfl)
end Go.Proofs.YtdihbfjjddmbiaaGreatDoor.metaKeepsP
namespace Go.Proofs.YtdihbfjjddmbiaaGreatDoor
theorem metaKeepsUpto_holds : Rows.MetaKeepsUptoCardSaid :=
  Claim7.holds_tied_plain_at .later [] _ _ _ _ metaKeepsP.saidUpto (fun _ h => by cases h) (by kernel_rfl) (fun _ h => by cases h) metaKeepsUpto_row_tie rfl ⟨rfl, rfl⟩ (by kernel_rfl) rfl metaKeepsP.plain (by kernel_rfl)
end Go.Proofs.YtdihbfjjddmbiaaGreatDoor
