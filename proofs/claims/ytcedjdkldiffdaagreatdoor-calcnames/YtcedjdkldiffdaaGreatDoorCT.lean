import Derived.Test.YtcedjdkldiffdaaGreatDoorCR
import Derived.OrdersIn
import Derived.OrdersHeld
import Derived.Deep.RegionHeld3
import Derived.Test.YtcedjdkldiffdaaGreatDoorEA
import Derived.Test.YtcedjdkldiffdaaGreatDoorFG
set_option maxRecDepth 100000
set_option maxHeartbeats 4000000
namespace Go.Proofs.YtcedjdkldiffdaaGreatDoor.Kit
open Go.RowKit Go.Shelf Go.Deep
open Go.Proofs.YtcedjdkldiffdaaGreatDoor.Kd (Ans AnsV cell5 cell2)
open Go.Proofs.YtcedjdkldiffdaaGreatDoor.Ink (OwnRow)
set_option linter.unusedVariables false
set_option linter.unusedSimpArgs false
attribute [local go_sem] run_store_func
/-- an array of two rows that is looked into, with what it reads -/
structure ArrC (W : World) (q r rc : Nat) (nu : Bool) (ao : Option Addr) (ca L N : Nat) (v2 n2 c2 : Nat) (ab a : Nat) : Prop where
  nd : NdA W q r rc nu ao ca L N v2 n2 c2
  hab : W.heap[ab]? = some (.cells #[.pointer (some ⟨a, 0, none⟩)] 66)
  ha : W.heap[a]? = some (.cells #[.pointer (some ⟨q, 0, none⟩), .int .i64 0, .int .i64 2, .pointer none] 102)
  h0 : W.cell? ⟨v2, 0, none⟩ = some (.int .u8 3)
  h1 : W.cell? ⟨v2, 1, none⟩ = some (.int .u8 4)
  nn : 2 ≤ n2 ∧ n2 ≤ 100000 ∧ n2 ≤ c2
theorem ArrC.kp {W u : World} {q r rc : Nat} {nu : Bool} {ao : Option Addr} {ca L N : Nat} {v2 n2 c2 : Nat} {ab a : Nat} {S : Nat → Prop} (h : ArrC W q r rc nu ao ca L N v2 n2 c2 ab a) (k : KpOf S W u) (s0 : S ab) (s1 : S a) (s2 : S q) (s3 : S r) (s5 : S v2) : ArrC u q r rc nu ao ca L N v2 n2 c2 ab a := by
  have hc : ∀ (p : Addr) (v : Value), S p.block → W.cell? p = some v → u.cell? p = some v := fun p v hs hp => (World.cell?_of_block (w := W) (k p.block hs)).trans hp
  exact ⟨⟨(k q s2).trans h.nd.nd, hc _ _ s3 h.nd.r0, hc _ _ s3 h.nd.r1, hc _ _ s3 h.nd.r2, hc _ _ s3 h.nd.r3, hc _ _ s3 h.nd.r4, hc _ _ s3 h.nd.r5⟩, (k ab s0).trans h.hab, (k a s1).trans h.ha, hc _ _ s5 h.h0, hc _ _ s5 h.h1, h.nn⟩
def valN (x : Nat) : Array Value := if x = 0 then #[.bool false, .int .i64 3, .string ⟨#[]⟩, .slice none 0 0] else #[.bool false, .int .i64 4, .string ⟨#[]⟩, .slice none 0 0]
def encV (x : Nat) : Array Value := #[.int .i64 x, .agg (valN x)]
/-- read of row k -/
theorem read50 (k a l left : Nat) (W : World) (q r rc : Nat) (nu : Bool) (ao : Option Addr) (ca L N : Nat) (v2 n2 c2 : Nat) (ab : Nat) (hk : k < 2) (hC : ArrC W q r rc nu ao ca L N v2 n2 c2 ab a) (hl : W.heap[l]? = some (.cells #[.pointer none, .int .i64 left] 141)) (hlq : q ≠ l) (hlr : r ≠ l) (hlv : v2 ≠ l) (h16 : 16 ≤ left) (hle : left ≤ 4194304) :
    Calls Tryz.prog 86 #[.pointer (some ⟨a, 0, none⟩), .pointer (some ⟨l, 0, none⟩), .int .i64 k] W fun e w' => e = .returned (.tuple #[.agg (valN k), .int .i64 0]) ∧ Rd1 W w' l left := by
  obtain ⟨n1', n2', n3'⟩ := hC.nn
  have : k = 0 ∨ k = 1 := by omega
  rcases this with rfl | rfl
  · exact read50_0 a l left W q r rc nu ao ca L N v2 n2 c2 hC.ha hC.nd hl hlq hlr hlv h16 hle n1' n2' n3' hC.h0 hC.h1
  · exact read50_1 a l left W q r rc nu ao ca L N v2 n2 c2 hC.ha hC.nd hl hlq hlr hlv h16 hle n1' n2' n3' hC.h0 hC.h1
theorem valN_form (x : Nat) : ∃ (vn : Bool) (y : Int), valN x = #[.bool vn, .int .i64 y, .string ⟨#[]⟩, .slice none 0 0] := by
  unfold valN
  split
  · exact ⟨_, _, rfl⟩
  · exact ⟨_, _, rfl⟩
/-- where the iterator stands behind k rows -/
def AllI (J : (Nat → Prop) → List Nat → World → Prop) (S : Nat → Prop) (l : Nat) (w0 : World) (k : Nat) (wr : World) : Prop :=
  J (fun b => b = l) (List.range k) wr ∧ wr.heap[l]? = some (.cells #[.pointer none, .int .i64 ((4194304 - 16 * k : Nat) : Int)] 141) ∧ KpOf S w0 wr
theorem all48_seq (n : Nat) (w : World) (q r rc : Nat) (nu : Bool) (ao : Option Addr) (ca L N : Nat) (v2 n2 c2 : Nat) (ab a : Nat) (S : Nat → Prop) (hS : ∀ b, S b → b < w.heap.size) (hC : ArrC w q r rc nu ao ca L N v2 n2 c2 ab a) (s0 : S ab) (s1 : S a) (s2 : S q) (s3 : S r) (s5 : S v2) :
    SeqOwn n Tryz.prog 84 #[.pointer (some ⟨ab, 0, none⟩)] encV (fun _ pre x _ => pre = List.range x ∧ x < 2) S (fun xs => xs = [0, 1]) (fun _ => True) w := by
  intro lp J Jx W hW hJ hJx hY h0
  have hSW : ∀ b, S b → b < W.heap.size := fun b h => Nat.lt_of_lt_of_le (hS b h) hW.size
  have hCW : ArrC W q r rc nu ao ca L N v2 n2 c2 ab a := hC.kp (S := S) (fun b h => hW.block b (hS b h) id) s0 s1 s2 s3 s5
  obtain ⟨W1, hW1⟩ : ∃ W1, W.alloc (.cells #[.pointer none, .int .i64 4194304] 141) = W1 := ⟨_, rfl⟩
  have g1 : Gr W W1 := by rw [← hW1]; exact gr_alloc W _
  have hl1 : W1.heap[W.heap.size]? = some (.cells #[.pointer none, .int .i64 4194304] 141) := by rw [← hW1]; exact heap_alloc_new W _
  obtain ⟨l, hl⟩ : ∃ l, W.heap.size = l := ⟨_, rfl⟩
  have HLk : Hid (Calls Tryz.prog 85 #[.pointer (some ⟨a, 0, none⟩)] W fun e w' => e = .returned (.pointer (some ⟨l, 0, none⟩)) ∧ w' = W1) := by
    have h := look49 a q W hCW.ha
    rw [hW1, hl] at h
    exact h
  rw [hl] at hl1
  have HI0 : Hid (AllI J S l W 0 W1) := ⟨hJ _ _ _ _ _ h0 (g1.mono fun _ _ h => h.elim) (fun k e => by have e' : k = l := e; subst e'; exact ⟨lt_of_heap hl1, .inr (by omega)⟩), hl1, fun b h => g1.block b (hSW b h) id⟩
  have c0 : W.cell? ⟨ab, 0, none⟩ = some (.pointer (some ⟨a, 0, none⟩)) := by simp [World.cell?, hCW.hab]
  have hSl : ∀ b, S b → b ≠ l := fun b h => by have := hSW b h; omega
  have HA : Hid (∀ wr, KpOf S W wr → wr.cell? ⟨ab, 0, none⟩ = some (.pointer (some ⟨a, 0, none⟩)) ∧ wr.cell? ⟨a, 2, none⟩ = some (.int .i64 2)) := fun wr k => by
    have h := hCW.kp k s0 s1 s2 s3 s5
    exact ⟨by simp [World.cell?, h.hab], (cell4 h.ha).2.2.1⟩
  have HR : Hid (∀ k wr, k < 2 → AllI J S l W k wr → Calls Tryz.prog 86 #[.pointer (some ⟨a, 0, none⟩), .pointer (some ⟨l, 0, none⟩), .int .i64 k] wr fun e w' => e = .returned (.tuple #[.agg (valN k), .int .i64 0]) ∧ Rd1 wr w' l (4194304 - 16 * k)) := fun k wr hk hI =>
    read50 k a l (4194304 - 16 * k) wr q r rc nu ao ca L N v2 n2 c2 ab hk (hCW.kp hI.2.2 s0 s1 s2 s3 s5) hI.2.1 (hSl _ s2) (hSl _ s3) (hSl _ s5) (by omega) (by omega)
  have HYY : Hid (∀ k wr w2 V, k < 2 → AllI J S l W k wr → Rd1 wr w2 l (4194304 - 16 * k) → w2.alloc (.cells (valN k) 77) = V → V.heap[w2.heap.size]? = some (.cells (valN k) 77) ∧ YieldAt Fence.wide (n - 1) Tryz.prog lp (encV k) V fun e W' => (e = .returned (.bool true) ∧ AllI J S l W (k + 1) W') ∨ (e = .returned (.bool false) ∧ Jx (List.range k ++ [k]) W')) := fun k wr w2 V hk hI hR hV => by
    have gV : Gr w2 V := by rw [← hV]; exact gr_alloc w2 _
    have hJV : J (fun b => b = l) (List.range k) V := by
      refine hJ _ _ _ _ _ hI.1 (hR.1.trans (gV.mono fun _ _ h => h.elim) (fun _ _ h => h)) (fun k' e => ⟨?_, .inl e⟩)
      have e' : k' = l := e
      subst e'
      exact Nat.lt_of_lt_of_le (lt_of_heap hR.2) gV.size
    refine ⟨by rw [← hV]; exact heap_alloc_new w2 _, (hY _ _ k V hJV ⟨rfl, hk⟩).mono ?_⟩
    rintro e W' (⟨rfl, hj, hk'⟩ | h)
    · refine .inl ⟨rfl, ?_, ?_, ?_⟩
      · rw [List.range_succ]; exact hj
      · rw [hk' l (.inr rfl), gV.block l (lt_of_heap hR.2) id, hR.2, show 4194304 - 16 * k - 16 = 4194304 - 16 * (k + 1) by omega]
      · intro b hb
        have hbw : b < wr.heap.size := by
          have h1 := hI.2.2 b hb
          have h2 := hSW b hb
          have h3 : wr.heap[b]? ≠ none := by rw [h1]; simp; exact h2
          simpa using h3
        rw [hk' b (.inl hb), gV.block b (Nat.lt_of_lt_of_le hbw hR.1.size) id, hR.1.block b hbw (hSl b hb)]
        exact hI.2.2 b hb
    · exact .inr h
  clear hW hJ hJx hY h0 hC hCW g1 hl1 hSl hSW hl hS
  refine callsIn_of_wp Tryz.func84 rfl trivial ?_ rfl
  simp only [Tryz.ntmps84, List.size_toArray, List.length_cons, List.length_nil, Nat.reduceAdd, Nat.reduceSub, Array.replicate_succ, Array.replicate_zero, List.push_toArray, List.append_toArray, List.nil_append, List.cons_append]
  gi_wp2_with (refine ⟨trivial, fun h => (by cases h), ?_⟩; gi_at_call 85; refine CallsIn.mono (callsIn_wide.2 HLk.out) ?_; rintro e w1 ⟨rfl, rfl⟩; clear c0 hW1; obtain ⟨c0, c2⟩ := HA.out w1 HI0.out.2.2)
  gi_loopw [13] (fun p wr => ∃ k : Nat, k ≤ 2 ∧ p = .int .i64 (k : Int) ∧ Hid (AllI J S l W k wr)) (fun p _ => 2 - (intOf p).toNat)
  case atStart => exact ⟨0, Nat.zero_le _, rfl, HI0⟩
  case round =>
    clear HI0 c0 c2
    obtain ⟨k, hk, rfl, HI⟩ := hrel
    by_cases hlt : k < 2
    · have hRk := HR.out k wr hlt HI.out
      have hYk := HYY.out k wr
      obtain ⟨vn, y, hvy⟩ := valN_form k
      unfold encV at hYk
      rw [hvy] at hRk hYk
      have HRk := hidM hRk
      have HYk := hidM hYk
      obtain ⟨c0, c2⟩ := HA.out wr HI.out.2.2
      clear hRk hYk hvy
      gi_wp2_with (first
        | (refine ⟨trivial, fun h => (by cases h), ?_⟩; gi_at_call 86; refine CallsIn.mono (callsIn_wide.2 HRk.out) ?_; rintro e w2 ⟨rfl, hr2⟩; obtain ⟨V, hV⟩ : ∃ V, w2.alloc (.cells #[.bool vn, .int .i64 y, .string ⟨#[]⟩, .slice none 0 0] 77) = V := ⟨_, rfl⟩; obtain ⟨hv9, fn, tm, asn, bdy, hy, hR⟩ := HYk.out w2 V hlt HI.out hr2 hV; obtain ⟨y0, y1, y2, y3⟩ := cell4 hv9; have z2 := frz hv9 2; have z3 := frz hv9 3; have z0 := frz hv9 0; have z1 := frz hv9 1; have i0 := set_id (j := 2) (v := .string ⟨#[]⟩) hv9 rfl; have i1 := set_id (j := 3) (v := .slice none 0 0) hv9 rfl; clear hr2 hv9 c0 c2)
        | (refine ⟨fun h => (by cases h), hR.mono ?_⟩; refine Hid.out ?_))
      unfold Hid
      rintro e W3 (⟨rfl, hI⟩ | ⟨rfl, hx⟩)
      · have HI2 := hidM hI
        clear hI hR hy y0 y1 y2 y3 z0 z1 z2 z3 i0 i1 hV HI
        gi_wp2
        go_roundw
        case rel => exact ⟨k + 1, by omega, by go_num, HI2⟩
        case measure => simp [intOf]; omega
      · have HX := hidM hx
        clear hx hR hy y0 y1 y2 y3 z0 z1 z2 z3 i0 i1 hV HI
        gi_wp2
        (try simp only [Exit.inBlock, Exit.then])
        refine bodyPost_ret (results_none rfl _ _ _) rfl ?_
        exact ⟨⟨_, rfl⟩, .inr ⟨_, trivial, HX.out⟩⟩
    · obtain rfl : k = 2 := by omega
      have HE : Hid (J (fun b => b = l) [0, 1] wr) := HI.out.1
      clear HI
      gi_wp2
      go_end0
      exact ⟨⟨_, rfl⟩, .inl ⟨_, _, rfl, HE.out⟩⟩
end Go.Proofs.YtcedjdkldiffdaaGreatDoor.Kit
namespace Go.Proofs.YtcedjdkldiffdaaGreatDoor.Kit
open Go.RowKit Go.Shelf Go.Deep
set_option linter.unusedVariables false
/-! ### a region that draws its order, in a round of a range over a function -/
theorem no_depth {l : Nat} (h : (Fence.wide.inRound l).depth.isSome = true) : False := by cases h
theorem rows_round {P : Program} {row : String} {args : Array Value} {w : World} {R : Value → World → Prop} {l n : Nat} (h : Rows P row args w R) : RowsIn (Fence.wide.inRound l) n P row args w R := fun c cs _ =>
  let ⟨v, w', r, s⟩ := h c cs
  ⟨v, w', r, stepsIn_wide.2 s⟩
theorem op_round {P : Program} {ops : Array Oper} {Q : Exit → Act → World → Prop} {i : Nat} {K : Act → World → Prop} {a : Act} {w : World} {l n : Nat} (hd : ∀ o, ops[i]? = some o → ∀ c, o.op ≠ .defer c) (hlo : ¬ LetsOut Q)
    (h : wpOp P ops Q i K a w) : wpOpIn (Fence.wide.inRound l) n P ops Q i K a w := by
  unfold wpOp at h
  unfold wpOpIn
  cases ho : ops[i]? with
  | none => simpa [ho] using h
  | some o =>
    simp only [ho] at h ⊢
    split
    · rename_i hw
      simp only [hw, if_true] at h
      have h1 : o.wp P a w K Q := h.resolve_right fun h => hlo h.2
      refine ⟨fun _ _ => trivial, ?_⟩
      have e : o.semAt (Fence.wide.inRound l).round a.eval = execOp a.eval o := Oper.semAt_some l _ _ (hd o ho)
      rw [e]
      unfold Oper.wp at h1
      generalize (execOp a.eval o).run P w = r at h1 ⊢
      cases r with
      | ok x w' =>
        cases x <;> simp only [Oper.upon] at h1 <;> simp only [Oper.uponIn] <;>
          first
            | exact h1
            | exact ⟨fun h => (no_depth h).elim, CallsIn.inRound l (callsIn_wide.2 h1)⟩
            | exact ⟨fun h => (no_depth h).elim, rows_round h1⟩
            | exact h1.elim
      | halt x w' => cases x <;> simp only [Oper.upon] at h1 <;> simp only [Oper.uponIn] <;> exact h1
    · rename_i hw
      simp only [hw] at h
      exact ⟨fun _ _ => trivial, h⟩
theorem any_round {P : Program} {md : Region.Mode} {ops : Array Oper} {Q : Exit → Act → World → Prop} {l n : Nat} (hd : ∀ (i : Nat) (o : Oper), ops[i]? = some o → ∀ c, o.op ≠ Op.defer c) (hlo : ¬ LetsOut Q) :
    ∀ (fuel : Nat) (listed : Array Bool) (a : Act) (w : World), wpAny P md ops Q fuel listed a w → wpAnyIn (Fence.wide.inRound l) n P md ops Q fuel listed a w
  | 0, _, _, _, h => h
  | fuel + 1, listed, a, w, h => ⟨h.1, fun i hi => op_round (hd i) hlo (wpOp_mono (fun a' w' => any_round hd hlo fuel _ a' w') (h.2 i hi))⟩
theorem region_round {P : Program} {ops : Array Oper} {Q : Exit → Act → World → Prop} {S : World → Prop} {l n id : Nat} {a : Act} {w : World} (hm : P.follows .mixedOrders = true) (hd : ∀ (i : Nat) (o : Oper), ops[i]? = some o → ∀ c, o.op ≠ Op.defer c) (hlo : ¬ LetsOut Q)
    (h : wpAnyH P .any ops Q S ops.size (Array.replicate ops.size false) a w.drew) : (Code.region id ops true).wpIn (Fence.wide.inRound l) n P Q a w :=
  wpIn_region_any hm (any_round hd hlo _ _ _ _ (wpAny_of_held _ _ _ _ h))
end Go.Proofs.YtcedjdkldiffdaaGreatDoor.Kit
namespace Go.Proofs.YtcedjdkldiffdaaGreatDoor.Kit
open Go.RowKit Go.Shelf Go.Deep
set_option linter.unusedVariables false

def noDefer (ops : Array Oper) : Bool := ops.all fun o => match o.op with | .defer _ => false | _ => true
theorem noDefer_spec {ops : Array Oper} (h : noDefer ops = true) (i : Nat) (o : Oper) (ho : ops[i]? = some o) (c : Call) : o.op ≠ Op.defer c := fun e => by
  unfold noDefer at h
  rw [Array.all_eq_true_iff_forall_mem] at h
  have := h o (Array.mem_of_getElem? ho)
  rw [e] at this
  cases this
theorem gr_allocD2 (V : World) (o : Obj) : Gr V.drew (V.alloc o).drew := gr_alloc V.drew o
end Go.Proofs.YtcedjdkldiffdaaGreatDoor.Kit
namespace Go.Proofs.YtcedjdkldiffdaaGreatDoor.Kit
open Go.RowKit Go.Shelf Go.Deep
open Go.Proofs.YtcedjdkldiffdaaGreatDoor.Kd (Ans AnsV cell5 cell2)
open Go.Proofs.YtcedjdkldiffdaaGreatDoor.Ink (OwnRow)
set_option linter.unusedVariables false
set_option linter.unusedSimpArgs false
attribute [local go_sem] run_store_func
theorem mk35 (w : World) : (Instr.makeSlice 42 (.int .i64 0) (.int .i64 2)).run Tryz.prog w = .ok (.slice (some ⟨w.heap.size, 0, none⟩) 0 2) (w.alloc (.cells #[.bool false, .int .i64 0, .string ⟨#[]⟩, .slice none 0 0, .bool false, .int .i64 0, .string ⟨#[]⟩, .slice none 0 0] 77)) := by kernel_rfl
theorem info37 : (Tryz.prog.info? 77).map (fun i => (i.zero, i.size, i.bytes)) = some (some (.agg #[.bool false, .int .i64 0, .string ⟨#[]⟩, .slice none 0 0]), 4, 56) := by kernel_rfl
/-- a builtin append whose run is known, as one step of a region that draws its order -/
theorem step_append_run {P : Program} {w : World} {ops : Array Oper} {o : Oper} {a : Act} {K : Act → World → Prop} {Q : Exit → Act → World → Prop} {E : Prop} (hgd : o.guard = none) (s x : Operand) (t tx : TypeId)
    (ho : o.op = .call { callee := .builtin .append, args := #[s, x], argTypes := #[t, tx] }) (v y v' : Value) (w' : World) (hv : a.eval s = v) (hx : a.eval x = y)
    (hr : ∀ ty, (Builtin.append_ #[t, tx] ty #[v, y]).run P w = .ok v' w') (h : K (a.put o.dst v') w') :
    if Region.wanted o (yielded ops a.tmps) = true then Oper.wp P o a w K Q else E := by
  have hw : Region.wanted o (yielded ops a.tmps) = true := by simp [Region.wanted, hgd]
  rw [if_pos hw]
  unfold Oper.wp
  simp [execOp, ho, resolve, invoke, builtin, hv, hx, hr, Result.andThen]
  exact h
theorem setRow_same {W : World} {b t : Nat} {c : Array Value} (h : W.heap[b]? = some (.cells c t)) : W.setRow b c = W := by
  have hm : (W.setRow b c).heap = W.heap := by
    apply Array.ext_getElem?
    intro i
    by_cases e : i = b
    · subst e
      rw [setRow_heap W i _ _ _ _ h, h]
    · exact setRow_other W b i c e
  show ({ W with heap := (W.setRow b c).heap } : World) = W
  rw [hm]
def rwU (w : World) (g o : Nat) (vn : Bool) (x : Int) : World := setAll w g [(o, .bool vn), (o + 1, .int .i64 x), (o + 2, .string ⟨#[]⟩), (o + 3, .slice none 0 0)]
def rowK (k : Nat) : Array Value := if k = 0 then #[.bool false, .int .i64 0, .string ⟨#[]⟩, .slice none 0 0, .bool false, .int .i64 0, .string ⟨#[]⟩, .slice none 0 0] else if k = 1 then #[.bool false, .int .i64 3, .string ⟨#[]⟩, .slice none 0 0, .bool false, .int .i64 0, .string ⟨#[]⟩, .slice none 0 0] else #[.bool false, .int .i64 3, .string ⟨#[]⟩, .slice none 0 0, .bool false, .int .i64 4, .string ⟨#[]⟩, .slice none 0 0]
/-- the list of values behind k rows -/
def ValI (W0 : World) (g b3 : Nat) (pre : List Nat) (wr : World) : Prop := ∃ k, k ≤ 2 ∧ pre = List.range k ∧ Gr W0 wr ∧ wr.heap[g]? = some (.cells (rowK k) 77) ∧ wr.heap[b3]? = some (.cells #[.slice (some ⟨g, 0, none⟩) k 2] 42)
theorem append_room {Z : World} {g z k : Nat} (hk : k < 2) (hg : Z.heap[g]? = some (.cells (rowK k) 77)) (hz : Z.heap[z]? = some (.cells #[.bool false, .int .i64 0, .string ⟨#[]⟩, .slice none 0 0] 77)) (ty : TypeId) :
    (Builtin.append_ #[42, 42] ty #[.slice (some ⟨g, 0, none⟩) k 2, .slice (some ⟨z, 0, none⟩) 1 1]).run Tryz.prog Z = .ok (.slice (some ⟨g, 0, none⟩) (k + 1) 2) Z := by
  obtain ⟨i, hi, hzz⟩ := Option.map_eq_some_iff.1 info37
  simp only [Prod.mk.injEq] at hzz
  obtain ⟨-, hsz, -⟩ := hzz
  have hsrc : Src Tryz.prog i.size 42 (.slice (some ⟨z, 0, none⟩) 1 1) 1 [.bool false, .int .i64 0, .string ⟨#[]⟩, .slice none 0 0] Z := by
    rw [hsz]
    refine Src.ofSlice (w := Z) Tryz.underlying42 ⟨z, 0, none⟩ 1 1 [.bool false, .int .i64 0, .string ⟨#[]⟩, .slice none 0 0] rfl (fun j v hj => ?_) (fun v hv => by simp at hv; rcases hv with rfl | rfl | rfl | rfl <;> rfl)
    rw [Addr.add_lit, Nat.zero_add]
    obtain ⟨c0, c1, c2, c3⟩ := cell4 hz
    match j, hj with
    | 0, hj => cases hj; exact c0
    | 1, hj => cases hj; exact c1
    | 2, hj => cases hj; exact c2
    | 3, hj => cases hj; exact c3
    | j + 4, hj => simp at hj
  have h2 : k = 0 ∨ k = 1 := by omega
  have hfit : k * i.size + [(.bool false : Value), .int .i64 0, .string ⟨#[]⟩, .slice none 0 0].length ≤ (rowK k).size := by
    rw [hsz]
    rcases h2 with rfl | rfl <;> decide
  have h := run_append_room_row (P := Tryz.prog) Z 42 42 ty 77 i Tryz.underlying42 hi g k 2 (rowK k) hg (.slice (some ⟨z, 0, none⟩) 1 1) 1 _ hsrc (by omega) hfit
  rw [h]
  have he : ((rowK k).toList.take (k * i.size) ++ [(.bool false : Value), .int .i64 0, .string ⟨#[]⟩, .slice none 0 0] ++ (rowK k).toList.drop (k * i.size + [(.bool false : Value), .int .i64 0, .string ⟨#[]⟩, .slice none 0 0].length)).toArray = rowK k := by
    rw [hsz]
    rcases h2 with rfl | rfl <;> rfl
  rw [he, setRow_same hg]
theorem val_step0 {W0 W Z : World} {g b3 : Nat} (gW : Gr W0 W) (hg : W.heap[g]? = some (.cells (rowK 0) 77)) (hb : W.heap[b3]? = some (.cells #[.slice (some ⟨g, 0, none⟩) 0 2] 42)) (gZ : Gr W Z) (hW0g : W0.heap.size ≤ g) (hW0b : W0.heap.size ≤ b3) :
    Z.heap[g]? = some (.cells (rowK 0) 77) ∧ Z.heap[b3]? = some (.cells #[.slice (some ⟨g, 0, none⟩) 0 2] 42) ∧
    (rwU Z g 0 false 3).heap[b3]? = some (.cells #[.slice (some ⟨g, 0, none⟩) 0 2] 42) ∧
    (Z.setCell ⟨b3, 0, none⟩ (.slice (some ⟨g, 0, none⟩) 1 2)).heap[g]? = some (.cells (rowK 0) 77) ∧
    (Keeps W ((rwU Z g 0 false 3).setCell ⟨b3, 0, none⟩ (.slice (some ⟨g, 0, none⟩) 1 2)) (fun b => b = g ∨ b = b3) ∧ ValI W0 g b3 (List.range 0 ++ [0]) ((rwU Z g 0 false 3).setCell ⟨b3, 0, none⟩ (.slice (some ⟨g, 0, none⟩) 1 2))) ∧
    (Keeps W (rwU (Z.setCell ⟨b3, 0, none⟩ (.slice (some ⟨g, 0, none⟩) 1 2)) g 0 false 3) (fun b => b = g ∨ b = b3) ∧ ValI W0 g b3 (List.range 0 ++ [0]) (rwU (Z.setCell ⟨b3, 0, none⟩ (.slice (some ⟨g, 0, none⟩) 1 2)) g 0 false 3)) := by
  have hne : g ≠ b3 := blk_ne hg hb (by decide)
  have zg := (gZ.block g (lt_of_heap hg) id).trans hg
  have zb := (gZ.block b3 (lt_of_heap hb) id).trans hb
  have k6 : Keeps Z (rwU Z g 0 false 3) (fun b => b = g) := setAll_kp _ _ _
  have b6 := (k6.block b3 (lt_of_heap zb) (Ne.symm hne)).trans zb
  have g6 : (rwU Z g 0 false 3).heap[g]? = some (.cells (rowK 1) 77) := by
    unfold rwU
    rw [setAll_blk g 77 _ _ _ zg]
    rfl
  have k7 : Keeps Z (Z.setCell ⟨b3, 0, none⟩ (.slice (some ⟨g, 0, none⟩) 1 2)) (fun b => b = b3) := (Keeps.refl Z (fun b => b = b3)).setCell (p := ⟨b3, 0, none⟩) (fun _ => rfl) _
  have g7 := (k7.block g (lt_of_heap zg) hne).trans zg
  have b7 : (Z.setCell ⟨b3, 0, none⟩ (.slice (some ⟨g, 0, none⟩) 1 2)).heap[b3]? = some (.cells #[.slice (some ⟨g, 0, none⟩) 1 2] 42) := by
    rw [heap_setCell_same Z b3 0 _ _ _ zb]; rfl
  have kWZ : Keeps W Z (fun b => b = g ∨ b = b3) := gZ.mono fun _ _ h => h.elim
  have k67 := (kWZ.trans k6 (fun _ _ h => .inl h)).setCell (p := ⟨b3, 0, none⟩) (fun _ => .inr rfl) (.slice (some ⟨g, 0, none⟩) 1 2)
  have k76 : Keeps W (rwU (Z.setCell ⟨b3, 0, none⟩ (.slice (some ⟨g, 0, none⟩) 1 2)) g 0 false 3) (fun b => b = g ∨ b = b3) := (kWZ.trans k7 (fun _ _ h => .inr h)).trans (setAll_kp _ _ _) (fun _ _ h => .inl h)
  have low : ∀ u, Keeps W u (fun b => b = g ∨ b = b3) → Gr W0 u := fun u h => gW.trans h (fun j hj e => by rcases e with e | e <;> omega)
  refine ⟨zg, zb, b6, g7, ⟨k67, 1, by omega, by rw [← List.range_succ], low _ k67, ?_, ?_⟩, ⟨k76, 1, by omega, by rw [← List.range_succ], low _ k76, ?_, ?_⟩⟩
  · rw [heap_setCell_other _ _ _ _ hne]; exact g6
  · rw [heap_setCell_same _ b3 0 _ _ _ b6]; rfl
  · unfold rwU
    rw [setAll_blk g 77 _ _ _ g7]
    rfl
  · unfold rwU
    rw [setAll_oth g b3 (Ne.symm hne)]
    exact b7
theorem val_step1 {W0 W Z : World} {g b3 : Nat} (gW : Gr W0 W) (hg : W.heap[g]? = some (.cells (rowK 1) 77)) (hb : W.heap[b3]? = some (.cells #[.slice (some ⟨g, 0, none⟩) 1 2] 42)) (gZ : Gr W Z) (hW0g : W0.heap.size ≤ g) (hW0b : W0.heap.size ≤ b3) :
    Z.heap[g]? = some (.cells (rowK 1) 77) ∧ Z.heap[b3]? = some (.cells #[.slice (some ⟨g, 0, none⟩) 1 2] 42) ∧
    (rwU Z g 4 false 4).heap[b3]? = some (.cells #[.slice (some ⟨g, 0, none⟩) 1 2] 42) ∧
    (Z.setCell ⟨b3, 0, none⟩ (.slice (some ⟨g, 0, none⟩) 2 2)).heap[g]? = some (.cells (rowK 1) 77) ∧
    (Keeps W ((rwU Z g 4 false 4).setCell ⟨b3, 0, none⟩ (.slice (some ⟨g, 0, none⟩) 2 2)) (fun b => b = g ∨ b = b3) ∧ ValI W0 g b3 (List.range 1 ++ [1]) ((rwU Z g 4 false 4).setCell ⟨b3, 0, none⟩ (.slice (some ⟨g, 0, none⟩) 2 2))) ∧
    (Keeps W (rwU (Z.setCell ⟨b3, 0, none⟩ (.slice (some ⟨g, 0, none⟩) 2 2)) g 4 false 4) (fun b => b = g ∨ b = b3) ∧ ValI W0 g b3 (List.range 1 ++ [1]) (rwU (Z.setCell ⟨b3, 0, none⟩ (.slice (some ⟨g, 0, none⟩) 2 2)) g 4 false 4)) := by
  have hne : g ≠ b3 := blk_ne hg hb (by decide)
  have zg := (gZ.block g (lt_of_heap hg) id).trans hg
  have zb := (gZ.block b3 (lt_of_heap hb) id).trans hb
  have k6 : Keeps Z (rwU Z g 4 false 4) (fun b => b = g) := setAll_kp _ _ _
  have b6 := (k6.block b3 (lt_of_heap zb) (Ne.symm hne)).trans zb
  have g6 : (rwU Z g 4 false 4).heap[g]? = some (.cells (rowK 2) 77) := by
    unfold rwU
    rw [setAll_blk g 77 _ _ _ zg]
    rfl
  have k7 : Keeps Z (Z.setCell ⟨b3, 0, none⟩ (.slice (some ⟨g, 0, none⟩) 2 2)) (fun b => b = b3) := (Keeps.refl Z (fun b => b = b3)).setCell (p := ⟨b3, 0, none⟩) (fun _ => rfl) _
  have g7 := (k7.block g (lt_of_heap zg) hne).trans zg
  have b7 : (Z.setCell ⟨b3, 0, none⟩ (.slice (some ⟨g, 0, none⟩) 2 2)).heap[b3]? = some (.cells #[.slice (some ⟨g, 0, none⟩) 2 2] 42) := by
    rw [heap_setCell_same Z b3 0 _ _ _ zb]; rfl
  have kWZ : Keeps W Z (fun b => b = g ∨ b = b3) := gZ.mono fun _ _ h => h.elim
  have k67 := (kWZ.trans k6 (fun _ _ h => .inl h)).setCell (p := ⟨b3, 0, none⟩) (fun _ => .inr rfl) (.slice (some ⟨g, 0, none⟩) 2 2)
  have k76 : Keeps W (rwU (Z.setCell ⟨b3, 0, none⟩ (.slice (some ⟨g, 0, none⟩) 2 2)) g 4 false 4) (fun b => b = g ∨ b = b3) := (kWZ.trans k7 (fun _ _ h => .inr h)).trans (setAll_kp _ _ _) (fun _ _ h => .inl h)
  have low : ∀ u, Keeps W u (fun b => b = g ∨ b = b3) → Gr W0 u := fun u h => gW.trans h (fun j hj e => by rcases e with e | e <;> omega)
  refine ⟨zg, zb, b6, g7, ⟨k67, 2, by omega, by rw [← List.range_succ], low _ k67, ?_, ?_⟩, ⟨k76, 2, by omega, by rw [← List.range_succ], low _ k76, ?_, ?_⟩⟩
  · rw [heap_setCell_other _ _ _ _ hne]; exact g6
  · rw [heap_setCell_same _ b3 0 _ _ _ b6]; rfl
  · unfold rwU
    rw [setAll_blk g 77 _ _ _ g7]
    rfl
  · unfold rwU
    rw [setAll_oth g b3 (Ne.symm hne)]
    exact b7
end Go.Proofs.YtcedjdkldiffdaaGreatDoor.Kit
