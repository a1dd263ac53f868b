import Derived.Test.YtffmppnlddphaaaDoorLP
import Derived.Test.YtffmppnlddphaaaDoorMB
import Derived.Deep.RegionHeld3
namespace Go.Proofs.YtffmppnlddphaaaDoor.Kit
open Go.RowKit Go.Shelf Go.Deep
set_option linter.unusedVariables false
attribute [local go_sem] run_store_func

set_option maxRecDepth 100000 in
set_option maxHeartbeats 4000000 in
theorem sameNode_any (s1 s2 : ByteArray) (n1 n2 : Bool) (k1 d1 i1 x1 k2 d2 i2 x2 : Int) (ao bo : Option Addr) (na ca nb cb : Nat) (w : World) :
    Calls Tryd.prog 78 #[.agg #[.string s1, .bool n1, .int .i64 k1, .int .i64 d1, .int .i64 i1, .int .i64 x1, .slice ao na ca], .agg #[.string s2, .bool n2, .int .i64 k2, .int .i64 d2, .int .i64 i2, .int .i64 x2, .slice bo nb cb]] w fun e w' => e = .returned (.bool ((n1 == n2) && ((k1 == k2 && d1 == d2 && i1 == i2 && x1 == x2) && decide (na = nb)))) ∧ Gr w w' := by
  go_enter Tryd.func78, Tryd.ntmps78
  go_wp2
  go_region
  all_goals go_wp2
  all_goals go_ret
  all_goals refine ⟨congrArg (fun b => Ending.returned (.bool b)) ?_, ((((gr_alloc _ _).alloc _).alloc _).alloc _).drew⟩
  all_goals (rw [Bool.eq_iff_iff]; simp [*]; try omega)

/-- two nodes of two lists, at the same place -/
structure TwoN (w W : World) (g h k : Nat) (f e : FT) (fo eo : Option Addr) (fc ec : Nat) : Prop where
  gr : Gr w W
  c : W.cell? ⟨g, k * 10 + 1, none⟩ = some (.string f.name) ∧ W.cell? ⟨g, k * 10 + 2, none⟩ = some (.bool f.nul) ∧ W.cell? ⟨g, k * 10 + 3, none⟩ = some (.int .i64 f.kind) ∧ W.cell? ⟨g, k * 10 + 4, none⟩ = some (.int .i64 f.width) ∧ W.cell? ⟨g, k * 10 + 5, none⟩ = some (.int .i64 f.id) ∧ W.cell? ⟨g, k * 10 + 6, none⟩ = some (.int .i64 f.index) ∧ W.cell? ⟨g, k * 10 + 7, none⟩ = some (.slice fo f.kids.length fc) ∧ W.cell? ⟨h, k * 10 + 1, none⟩ = some (.string e.name) ∧ W.cell? ⟨h, k * 10 + 2, none⟩ = some (.bool e.nul) ∧ W.cell? ⟨h, k * 10 + 3, none⟩ = some (.int .i64 e.kind) ∧ W.cell? ⟨h, k * 10 + 4, none⟩ = some (.int .i64 e.width) ∧ W.cell? ⟨h, k * 10 + 5, none⟩ = some (.int .i64 e.id) ∧ W.cell? ⟨h, k * 10 + 6, none⟩ = some (.int .i64 e.index) ∧ W.cell? ⟨h, k * 10 + 7, none⟩ = some (.slice eo e.kids.length ec)
theorem twoN {w W : World} {g h k : Nat} {f e : FT} {fo eo : Option Addr} {fc ec : Nat} (t : TwoN w W g h k f e fo eo fc ec) : Hid (TwoN w W g h k f e fo eo fc ec) ∧ W.cell? ⟨g, k * 10 + 1, none⟩ = some (.string f.name) ∧ W.cell? ⟨g, k * 10 + 2, none⟩ = some (.bool f.nul) ∧ W.cell? ⟨g, k * 10 + 3, none⟩ = some (.int .i64 f.kind) ∧ W.cell? ⟨g, k * 10 + 4, none⟩ = some (.int .i64 f.width) ∧ W.cell? ⟨g, k * 10 + 5, none⟩ = some (.int .i64 f.id) ∧ W.cell? ⟨g, k * 10 + 6, none⟩ = some (.int .i64 f.index) ∧ W.cell? ⟨g, k * 10 + 7, none⟩ = some (.slice fo f.kids.length fc) ∧ W.cell? ⟨h, k * 10 + 1, none⟩ = some (.string e.name) ∧ W.cell? ⟨h, k * 10 + 2, none⟩ = some (.bool e.nul) ∧ W.cell? ⟨h, k * 10 + 3, none⟩ = some (.int .i64 e.kind) ∧ W.cell? ⟨h, k * 10 + 4, none⟩ = some (.int .i64 e.width) ∧ W.cell? ⟨h, k * 10 + 5, none⟩ = some (.int .i64 e.id) ∧ W.cell? ⟨h, k * 10 + 6, none⟩ = some (.int .i64 e.index) ∧ W.cell? ⟨h, k * 10 + 7, none⟩ = some (.slice eo e.kids.length ec) := ⟨t, t.c⟩
theorem TwoN.gr' {w W : World} {g h k : Nat} {f e : FT} {fo eo : Option Addr} {fc ec : Nat} (t : TwoN w W g h k f e fo eo fc ec) {W' : World} (q : Gr W W') : TwoN w W' g h k f e fo eo fc ec := by
  obtain ⟨tg, a1, a2, a3, a4, a5, a6, a7, b1, b2, b3, b4, b5, b6, b7⟩ := t
  exact ⟨tg.trans q (fun _ _ h => h), q.cell' a1 id, q.cell' a2 id, q.cell' a3 id, q.cell' a4 id, q.cell' a5 id, q.cell' a6 id, q.cell' a7 id, q.cell' b1 id, q.cell' b2 id, q.cell' b3 id, q.cell' b4 id, q.cell' b5 id, q.cell' b6 id, q.cell' b7 id⟩
theorem twoN_kept {w W : World} {g h k : Nat} {f e : FT} {fo eo : Option Addr} {fc ec : Nat} {W' : World} (t : Hid (TwoN w W g h k f e fo eo fc ec) ∧ W.cell? ⟨g, k * 10 + 1, none⟩ = some (.string f.name) ∧ W.cell? ⟨g, k * 10 + 2, none⟩ = some (.bool f.nul) ∧ W.cell? ⟨g, k * 10 + 3, none⟩ = some (.int .i64 f.kind) ∧ W.cell? ⟨g, k * 10 + 4, none⟩ = some (.int .i64 f.width) ∧ W.cell? ⟨g, k * 10 + 5, none⟩ = some (.int .i64 f.id) ∧ W.cell? ⟨g, k * 10 + 6, none⟩ = some (.int .i64 f.index) ∧ W.cell? ⟨g, k * 10 + 7, none⟩ = some (.slice fo f.kids.length fc) ∧ W.cell? ⟨h, k * 10 + 1, none⟩ = some (.string e.name) ∧ W.cell? ⟨h, k * 10 + 2, none⟩ = some (.bool e.nul) ∧ W.cell? ⟨h, k * 10 + 3, none⟩ = some (.int .i64 e.kind) ∧ W.cell? ⟨h, k * 10 + 4, none⟩ = some (.int .i64 e.width) ∧ W.cell? ⟨h, k * 10 + 5, none⟩ = some (.int .i64 e.id) ∧ W.cell? ⟨h, k * 10 + 6, none⟩ = some (.int .i64 e.index) ∧ W.cell? ⟨h, k * 10 + 7, none⟩ = some (.slice eo e.kids.length ec)) (q : Hid (Gr W W')) : Hid (TwoN w W' g h k f e fo eo fc ec) ∧ W'.cell? ⟨g, k * 10 + 1, none⟩ = some (.string f.name) ∧ W'.cell? ⟨g, k * 10 + 2, none⟩ = some (.bool f.nul) ∧ W'.cell? ⟨g, k * 10 + 3, none⟩ = some (.int .i64 f.kind) ∧ W'.cell? ⟨g, k * 10 + 4, none⟩ = some (.int .i64 f.width) ∧ W'.cell? ⟨g, k * 10 + 5, none⟩ = some (.int .i64 f.id) ∧ W'.cell? ⟨g, k * 10 + 6, none⟩ = some (.int .i64 f.index) ∧ W'.cell? ⟨g, k * 10 + 7, none⟩ = some (.slice fo f.kids.length fc) ∧ W'.cell? ⟨h, k * 10 + 1, none⟩ = some (.string e.name) ∧ W'.cell? ⟨h, k * 10 + 2, none⟩ = some (.bool e.nul) ∧ W'.cell? ⟨h, k * 10 + 3, none⟩ = some (.int .i64 e.kind) ∧ W'.cell? ⟨h, k * 10 + 4, none⟩ = some (.int .i64 e.width) ∧ W'.cell? ⟨h, k * 10 + 5, none⟩ = some (.int .i64 e.id) ∧ W'.cell? ⟨h, k * 10 + 6, none⟩ = some (.int .i64 e.index) ∧ W'.cell? ⟨h, k * 10 + 7, none⟩ = some (.slice eo e.kids.length ec) := twoN (t.1.out.gr' q.out)

set_option maxRecDepth 100000 in
set_option maxHeartbeats 4000000 in
theorem alike_any (S : Nat → Prop) (D : Nat) (nm : Bool) (ao bo : Option Addr) (ca cb : Nat) (a b : List FT) (W : World) (ha : RowAt S W D ao a) (hca : a.length ≤ ca) (hb : RowAt S W D bo b) (hcb : b.length ≤ cb) (hS : ∀ b, S b → b < W.heap.size) :
    Calls Tryd.prog 52 #[.slice ao a.length ca, .slice bo b.length cb, .bool nm] W fun e w' => e = .returned (.bool (alikeB nm a.length b.length (grown [] (nodesC D a [] false)) (grown [] (nodesC D b [] false)))) ∧ Gr W w' := by
  have hN := grown_le [] (nodesC D a [] false)
  have hM := grown_le [] (nodesC D b [] false)
  have c1 := grow_any S D W ao none none ca 0 0 a [] false [] ha hca (by simp) (World.ownsRow_nil _ _ _ _) (OutAt.nil S W) (by simp) (fun b hb => ⟨hS b hb, by simp [Value.ownBlock]⟩)
  have H2 : Hid (∀ w1, Gr W w1 → Calls Tryd.prog 46 #[.slice bo b.length cb, .slice none 0 0, .bool false, .slice none 0 0] w1 (GrowR S w1 (.slice none 0 0) (grown [] (nodesC D b [] false)))) := fun w1 g1 =>
    grow_any S D w1 bo none none cb 0 0 b [] false [] (hb.kept fun b h => g1.block b (hS b h) id) hcb (by simp) (World.ownsRow_nil _ _ _ _) (OutAt.nil S w1) (by simp) (fun b hb => ⟨by have := hS b hb; have := g1.size; omega, by simp [Value.ownBlock]⟩)
  have H1 := hidM c1
  have hla : a.length ≤ 1000000000000 := ha.len
  have hlb : b.length ≤ 1000000000000 := hb.len
  have HS := hidM hS
  have H65 : Hid (∀ x ∈ grown [] (nodesC D a [] false), x.path.length ≤ 65) := fun x hx => nodesC_path D a [] false x (by simp) (List.mem_of_mem_take hx)
  clear c1 ha hb hS hca hcb
  generalize grown [] (nodesC D a [] false) = N at *
  generalize grown [] (nodesC D b [] false) = M at *
  generalize a.length = la at *
  generalize b.length = lb at *
  clear a b
  obtain ⟨R, hR⟩ : ∃ R, R = alikeB nm la lb N M := ⟨_, rfl⟩
  rw [← hR]
  have HR := hidM hR
  clear hR
  go_enter Tryd.func52, Tryd.ntmps52
  go_wp2_with (go_at_call 46; refine Hid.out ?_)
  unfold Hid
  refine Calls.mono H1.out ?_
  rintro e w1 ⟨vo, vc, rfl, hI⟩
  have hg1 : Gr W w1 := hI.k.mono fun _ _ h => by simp [Value.ownBlock] at h
  have HO1 : Hid (OutAt S w1 (.slice vo N.length vc) N ∧ ∀ b, S b → b < w1.heap.size ∧ (Value.slice vo N.length vc).ownBlock ≠ some b) := ⟨hI.at_, fun b hb => by
    have h1 := HS.out b hb
    have h3 := hg1.size
    refine ⟨by omega, fun e => ?_⟩
    rcases hI.own with h | h
    · rw [h] at e; simp [Value.ownBlock] at e
    · have := h b e; omega⟩
  have HG1 := hidM hg1
  clear hI hg1 H1
  obtain ⟨n, hn⟩ : ∃ n, n = N.length := ⟨_, rfl⟩
  obtain ⟨m, hm⟩ : ∃ m, m = M.length := ⟨_, rfl⟩
  rw [← hn] at hN ⊢
  rw [← hm] at hM
  have Hn := hidM hn
  have Hm := hidM hm
  clear hn hm
  go_wp2_with (go_at_call 46; refine Hid.out ?_)
  unfold Hid
  refine Calls.mono (H2.out w1 HG1.out) ?_
  rintro e w2 ⟨uo, uc, rfl, hI⟩
  rw [← Hm.out] at hI ⊢
  have hg2 : Gr w1 w2 := hI.k.mono fun _ _ h => by simp [Value.ownBlock] at h
  have HO : Hid (OutAt S w2 (.slice vo N.length vc) N ∧ OutAt S w2 (.slice uo M.length uc) M ∧ (∀ b, S b → b < w2.heap.size ∧ (Value.slice vo N.length vc).ownBlock ≠ some b) ∧ (∀ b, S b → b < w2.heap.size ∧ (Value.slice uo M.length uc).ownBlock ≠ some b)) := by
    refine ⟨HO1.out.1.keeps hg2 HO1.out.2, by rw [← Hm.out]; exact hI.at_, fun b hb => ?_, fun b hb => ?_⟩
    · have h1 := HO1.out.2 b hb
      have := hg2.size
      exact ⟨by omega, h1.2⟩
    · have h1 := HO1.out.2 b hb
      have h3 := hg2.size
      refine ⟨by omega, fun e => ?_⟩
      rw [← Hm.out] at e
      rcases hI.own with h | h
      · rw [h] at e; simp [Value.ownBlock] at e
      · have := h b e; omega
  have HG2 := hidM (HG1.out.trans hg2 (fun _ _ h => h))
  clear hI hg2 HO1 HG1 H2 HS
  by_cases hl : la = lb
  · subst hl
    by_cases hnm : n = m
    · subst hnm
      go_wp2
      go_loopw [29] (fun p wr => ∃ k : Nat, k ≤ n ∧ p = .int .i64 (k : Int) ∧ Hid (Gr w2 wr ∧ ∀ i (h : i < N.length) (h' : i < M.length), i < k → ndEq nm N[i] M[i] = true)) (fun p _ => n - (intOf p).toNat)
      case atStart => exact ⟨0, by omega, rfl, Keeps.refl _ _, fun i _ _ h => by omega⟩
      case round =>
        obtain ⟨k, hk, rfl, HK⟩ := hrel
        by_cases hlt : k < n
        · have hkN : k < N.length := by have := Hn.out; omega
          have hkM : k < M.length := by have := Hm.out; omega
          obtain ⟨g, rfl, hgv, hten⟩ := (HO.out.1.keeps HK.out.1 HO.out.2.2.1).ten (by omega)
          obtain ⟨h, rfl, hhv, hten'⟩ := (HO.out.2.1.keeps HK.out.1 HO.out.2.2.2).ten (by omega)
          obtain ⟨wb, wc, fo, fc, ao', ca', t, _⟩ := hten k hkN
          obtain ⟨wb', wc', eo, ec, bo', cb', t', _⟩ := hten' k hkM
          obtain ⟨x, hx⟩ : ∃ x, x = N[k]'hkN := ⟨_, rfl⟩
          obtain ⟨y, hy⟩ : ∃ y, y = M[k]'hkM := ⟨_, rfl⟩
          rw [← hx] at t
          rw [← hy] at t'
          have HP := hidM HK.out.2
          have HGk := hidM HK.out.1
          have HT : Hid (TwoN w2 wr g h k x.fld y.fld fo eo fc ec) := ⟨HK.out.1, t.c1, t.c2, t.c3, t.c4, t.c5, t.c6, t.c7, t'.c1, t'.c2, t'.c3, t'.c4, t'.c5, t'.c6, t'.c7⟩
          have c0 := t.c0
          have hxp := H65.out x (by rw [hx]; exact List.getElem_mem _)
          have HX := hidM hx
          have HY := hidM hy
          clear hten hten' t t' hx hy HK
          have hltI : (k : Int) < (n : Int) := by omega
          have HD : Hid (ndEq nm x y = (nodeEq x.fld y.fld && (!(nm || decide (1 < x.path.length)) || sEq x.fld.name y.fld.name))) := rfl
          have HRf : Hid (ndEq nm x y = false → R = false) := fun hz => by
            rw [HR.out]; unfold alikeB
            rw [sameAll_false k hkN hkM (by rw [← HX.out, ← HY.out]; exact hz)]; simp
          generalize hP : x.path.length = P at *
          clear hP
          generalize x.fld = f at *
          generalize y.fld = q at *
          have C78 : Hid (∀ W', Calls Tryd.prog 78 #[.agg #[.string f.name, .bool f.nul, .int .i64 f.kind, .int .i64 f.width, .int .i64 f.id, .int .i64 f.index, .slice fo f.kids.length fc], .agg #[.string q.name, .bool q.nul, .int .i64 q.kind, .int .i64 q.width, .int .i64 q.id, .int .i64 q.index, .slice eo q.kids.length ec]] W' fun e w' => e = .returned (.bool (nodeEq f q)) ∧ Gr W' w') := fun W' => sameNode_any _ _ _ _ _ _ _ _ _ _ _ _ _ _ _ _ _ _ W'
          generalize nodeEq f q = r at *
          unfold sEq at HD
          have HIN : Hid (Hid (TwoN w2 wr.drew g h k f q fo eo fc ec) ∧ wr.drew.cell? ⟨g, k * 10 + 1, none⟩ = some (.string f.name) ∧ wr.drew.cell? ⟨g, k * 10 + 2, none⟩ = some (.bool f.nul) ∧ wr.drew.cell? ⟨g, k * 10 + 3, none⟩ = some (.int .i64 f.kind) ∧ wr.drew.cell? ⟨g, k * 10 + 4, none⟩ = some (.int .i64 f.width) ∧ wr.drew.cell? ⟨g, k * 10 + 5, none⟩ = some (.int .i64 f.id) ∧ wr.drew.cell? ⟨g, k * 10 + 6, none⟩ = some (.int .i64 f.index) ∧ wr.drew.cell? ⟨g, k * 10 + 7, none⟩ = some (.slice fo f.kids.length fc) ∧ wr.drew.cell? ⟨h, k * 10 + 1, none⟩ = some (.string q.name) ∧ wr.drew.cell? ⟨h, k * 10 + 2, none⟩ = some (.bool q.nul) ∧ wr.drew.cell? ⟨h, k * 10 + 3, none⟩ = some (.int .i64 q.kind) ∧ wr.drew.cell? ⟨h, k * 10 + 4, none⟩ = some (.int .i64 q.width) ∧ wr.drew.cell? ⟨h, k * 10 + 5, none⟩ = some (.int .i64 q.id) ∧ wr.drew.cell? ⟨h, k * 10 + 6, none⟩ = some (.int .i64 q.index) ∧ wr.drew.cell? ⟨h, k * 10 + 7, none⟩ = some (.slice eo q.kids.length ec)) := twoN (HT.out.gr' gr_drew)
          have hidx : (0 : Int) ≤ (k : Int) := by omega
          cases nm with
          | true =>
            go_wp2
            clear c0
            refine wp_region_held_drew (S := fun w' => Hid (TwoN w2 w' g h k f q fo eo fc ec) ∧ w'.cell? ⟨g, k * 10 + 1, none⟩ = some (.string f.name) ∧ w'.cell? ⟨g, k * 10 + 2, none⟩ = some (.bool f.nul) ∧ w'.cell? ⟨g, k * 10 + 3, none⟩ = some (.int .i64 f.kind) ∧ w'.cell? ⟨g, k * 10 + 4, none⟩ = some (.int .i64 f.width) ∧ w'.cell? ⟨g, k * 10 + 5, none⟩ = some (.int .i64 f.id) ∧ w'.cell? ⟨g, k * 10 + 6, none⟩ = some (.int .i64 f.index) ∧ w'.cell? ⟨g, k * 10 + 7, none⟩ = some (.slice fo f.kids.length fc) ∧ w'.cell? ⟨h, k * 10 + 1, none⟩ = some (.string q.name) ∧ w'.cell? ⟨h, k * 10 + 2, none⟩ = some (.bool q.nul) ∧ w'.cell? ⟨h, k * 10 + 3, none⟩ = some (.int .i64 q.kind) ∧ w'.cell? ⟨h, k * 10 + 4, none⟩ = some (.int .i64 q.width) ∧ w'.cell? ⟨h, k * 10 + 5, none⟩ = some (.int .i64 q.id) ∧ w'.cell? ⟨h, k * 10 + 6, none⟩ = some (.int .i64 q.index) ∧ w'.cell? ⟨h, k * 10 + 7, none⟩ = some (.slice eo q.kids.length ec)) (by kernel_rfl) HIN.out (fun hHeld => ?_)
            refine wpAnyH_take (i := 0) (oi := { dst := some 42, op := Op.move (Operand.tmp 7), type := 52, pos := "ref.go:257", after := #[], guard := none }) (v := ?v0u1) rfl (by kernel_rfl) (by kernel_rfl) (by kernel_rfl) (fun _ _ _ h => h) (Or.inl ⟨by rfl, ?y0u1⟩) (by assumption) ?r0u1
            case y0u1 => (intro w hSw; obtain ⟨-, s1, s2, s3, s4, s5, s6, s7, s8, s9, s10, s11, s12, s13, s14⟩ := hSw; go_simp; (try with_reducible rfl))
            (try simp only [Act.put]); (try simp only [List.setIfInBounds_toArray]); (try simp only [List.set_cons_succ]); (try simp only [List.set_cons_zero])
            refine wpAnyH_take (i := 1) (oi := { dst := some 43, op := Op.move (Operand.tmp 9), type := 3, pos := "ref.go:257", after := #[], guard := none }) (v := ?v1u2) rfl (by kernel_rfl) (by kernel_rfl) (by kernel_rfl) (fun _ _ _ h => h) (Or.inl ⟨by rfl, ?y1u2⟩) (by assumption) ?r1u2
            case y1u2 => (intro w hSw; obtain ⟨-, s1, s2, s3, s4, s5, s6, s7, s8, s9, s10, s11, s12, s13, s14⟩ := hSw; go_simp; (try with_reducible rfl))
            (try simp only [Act.put]); (try simp only [List.setIfInBounds_toArray]); (try simp only [List.set_cons_succ]); (try simp only [List.set_cons_zero])
            refine wpAnyH_take (i := 2) (oi := { dst := some 44, op := Op.indexAddr 52 (Operand.tmp 42) (Operand.tmp 43), type := 0, pos := "ref.go:257", after := #[{ on := 0, ground := Ground.data }, { on := 1, ground := Ground.data }], guard := none }) (v := ?v2u3) rfl (by kernel_rfl) (by kernel_rfl) (by kernel_rfl) (fun _ _ _ h => h) (Or.inl ⟨by rfl, ?y2u3⟩) (by assumption) ?r2u3
            case y2u3 => (intro w hSw; obtain ⟨-, s1, s2, s3, s4, s5, s6, s7, s8, s9, s10, s11, s12, s13, s14⟩ := hSw; go_simp; (try with_reducible rfl))
            (try simp only [Act.put]); (try simp only [List.setIfInBounds_toArray]); (try simp only [List.set_cons_succ]); (try simp only [List.set_cons_zero])
            refine wpAnyH_take (i := 3) (oi := { dst := some 45, op := Op.fieldAddr 61 (Operand.tmp 44) 1, type := 0, pos := "ref.go:257", after := #[{ on := 2, ground := Ground.data }], guard := none }) (v := ?v3u4) rfl (by kernel_rfl) (by kernel_rfl) (by kernel_rfl) (fun _ _ _ h => h) (Or.inl ⟨by rfl, ?y3u4⟩) (by assumption) ?r3u4
            case y3u4 => (intro w hSw; obtain ⟨-, s1, s2, s3, s4, s5, s6, s7, s8, s9, s10, s11, s12, s13, s14⟩ := hSw; go_simp; (try with_reducible rfl))
            (try simp only [Act.put]); (try simp only [List.setIfInBounds_toArray]); (try simp only [List.set_cons_succ]); (try simp only [List.set_cons_zero])
            refine wpAnyH_take (i := 4) (oi := { dst := some 46, op := Op.load 37 (Operand.tmp 45), type := 37, pos := "ref.go:257", after := #[{ on := 3, ground := Ground.data }], guard := none }) (v := ?v4u5) rfl (by kernel_rfl) (by kernel_rfl) (by kernel_rfl) (fun _ _ _ h => h) (Or.inl ⟨by rfl, ?y4u5⟩) (by assumption) ?r4u5
            case y4u5 => (intro w hSw; obtain ⟨-, s1, s2, s3, s4, s5, s6, s7, s8, s9, s10, s11, s12, s13, s14⟩ := hSw; go_simp; (try with_reducible rfl))
            (try simp only [Act.put]); (try simp only [List.setIfInBounds_toArray]); (try simp only [List.set_cons_succ]); (try simp only [List.set_cons_zero])
            refine wpAnyH_take (i := 5) (oi := { dst := some 47, op := Op.move (Operand.tmp 8), type := 52, pos := "ref.go:257", after := #[], guard := none }) (v := ?v5u6) rfl (by kernel_rfl) (by kernel_rfl) (by kernel_rfl) (fun _ _ _ h => h) (Or.inl ⟨by rfl, ?y5u6⟩) (by assumption) ?r5u6
            case y5u6 => (intro w hSw; obtain ⟨-, s1, s2, s3, s4, s5, s6, s7, s8, s9, s10, s11, s12, s13, s14⟩ := hSw; go_simp; (try with_reducible rfl))
            (try simp only [Act.put]); (try simp only [List.setIfInBounds_toArray]); (try simp only [List.set_cons_succ]); (try simp only [List.set_cons_zero])
            refine wpAnyH_take (i := 6) (oi := { dst := some 48, op := Op.move (Operand.tmp 9), type := 3, pos := "ref.go:257", after := #[], guard := none }) (v := ?v6u7) rfl (by kernel_rfl) (by kernel_rfl) (by kernel_rfl) (fun _ _ _ h => h) (Or.inl ⟨by rfl, ?y6u7⟩) (by assumption) ?r6u7
            case y6u7 => (intro w hSw; obtain ⟨-, s1, s2, s3, s4, s5, s6, s7, s8, s9, s10, s11, s12, s13, s14⟩ := hSw; go_simp; (try with_reducible rfl))
            (try simp only [Act.put]); (try simp only [List.setIfInBounds_toArray]); (try simp only [List.set_cons_succ]); (try simp only [List.set_cons_zero])
            refine wpAnyH_take (i := 7) (oi := { dst := some 49, op := Op.indexAddr 52 (Operand.tmp 47) (Operand.tmp 48), type := 0, pos := "ref.go:257", after := #[{ on := 5, ground := Ground.data }, { on := 6, ground := Ground.data }], guard := none }) (v := ?v7u8) rfl (by kernel_rfl) (by kernel_rfl) (by kernel_rfl) (fun _ _ _ h => h) (Or.inl ⟨by rfl, ?y7u8⟩) (by assumption) ?r7u8
            case y7u8 => (intro w hSw; obtain ⟨-, s1, s2, s3, s4, s5, s6, s7, s8, s9, s10, s11, s12, s13, s14⟩ := hSw; go_simp; (try with_reducible rfl))
            (try simp only [Act.put]); (try simp only [List.setIfInBounds_toArray]); (try simp only [List.set_cons_succ]); (try simp only [List.set_cons_zero])
            refine wpAnyH_take (i := 8) (oi := { dst := some 50, op := Op.fieldAddr 61 (Operand.tmp 49) 1, type := 0, pos := "ref.go:257", after := #[{ on := 7, ground := Ground.data }], guard := none }) (v := ?v8u9) rfl (by kernel_rfl) (by kernel_rfl) (by kernel_rfl) (fun _ _ _ h => h) (Or.inl ⟨by rfl, ?y8u9⟩) (by assumption) ?r8u9
            case y8u9 => (intro w hSw; obtain ⟨-, s1, s2, s3, s4, s5, s6, s7, s8, s9, s10, s11, s12, s13, s14⟩ := hSw; go_simp; (try with_reducible rfl))
            (try simp only [Act.put]); (try simp only [List.setIfInBounds_toArray]); (try simp only [List.set_cons_succ]); (try simp only [List.set_cons_zero])
            refine wpAnyH_take (i := 9) (oi := { dst := some 51, op := Op.load 37 (Operand.tmp 50), type := 37, pos := "ref.go:257", after := #[{ on := 8, ground := Ground.data }], guard := none }) (v := ?v9u10) rfl (by kernel_rfl) (by kernel_rfl) (by kernel_rfl) (fun _ _ _ h => h) (Or.inl ⟨by rfl, ?y9u10⟩) (by assumption) ?r9u10
            case y9u10 => (intro w hSw; obtain ⟨-, s1, s2, s3, s4, s5, s6, s7, s8, s9, s10, s11, s12, s13, s14⟩ := hSw; go_simp; (try with_reducible rfl))
            (try simp only [Act.put]); (try simp only [List.setIfInBounds_toArray]); (try simp only [List.set_cons_succ]); (try simp only [List.set_cons_zero])
            refine wpAnyH_ready (rs := [10]) (by kernel_rfl) (by simp) ?_
            refine AllReadyH.cons (o := { dst := some 52, op := Op.call { callee := Callee.value (Operand.func 78), args := #[Operand.tmp 46, Operand.tmp 51], argTypes := #[37, 37] }, type := 4, pos := "ref.go:257", after := #[{ on := 4, ground := Ground.data }, { on := 9, ground := Ground.data }], guard := none }) rfl (fun K hK => ?_) AllReadyH.nil
            go_simp
            go_at_call 78
            refine Calls.mono (C78.out _) ?_
            rintro e' v1 ⟨rfl, hk1⟩
            replace hk1 := hidM hk1
            go_wp2_with fail
            refine hK.out _ _ (twoN_kept hHeld hk1) (fun hHeld => ?_)
            clear hK K
            (try simp only [Act.put]); (try simp only [List.setIfInBounds_toArray]); (try simp only [List.set_cons_succ]); (try simp only [List.set_cons_zero])
            cases r with
            | false =>
              have HZ : Hid (ndEq true x y = false) := by show _ = _; rw [HD.out]; rfl
              refine wpAnyH_take (i := 11) (oi := { dst := some 53, op := Op.unOp UnOp.not 4 (Operand.tmp 52), type := 4, pos := "ref.go:257", after := #[{ on := 10, ground := Ground.data }], guard := none }) (v := ?v11u11) rfl (by kernel_rfl) (by kernel_rfl) (by kernel_rfl) (fun _ _ _ h => h) (Or.inl ⟨by rfl, ?y11u11⟩) (by assumption) ?r11u11
              case y11u11 => (intro w hSw; obtain ⟨-, s1, s2, s3, s4, s5, s6, s7, s8, s9, s10, s11, s12, s13, s14⟩ := hSw; go_simp; (try with_reducible rfl))
              (try simp only [Act.put]); (try simp only [List.setIfInBounds_toArray]); (try simp only [List.set_cons_succ]); (try simp only [List.set_cons_zero])
              refine wpAnyH_take (i := 12) (oi := { dst := some 54, op := Op.move (Operand.tmp 53), type := 4, pos := "ref.go:257", after := #[{ on := 11, ground := Ground.data }, { on := 10, ground := Ground.chain }], guard := none }) (v := ?v12u12) rfl (by kernel_rfl) (by kernel_rfl) (by kernel_rfl) (fun _ _ _ h => h) (Or.inl ⟨by rfl, ?y12u12⟩) (by assumption) ?r12u12
              case y12u12 => (intro w hSw; obtain ⟨-, s1, s2, s3, s4, s5, s6, s7, s8, s9, s10, s11, s12, s13, s14⟩ := hSw; go_simp; (try with_reducible rfl))
              (try simp only [Act.put]); (try simp only [List.setIfInBounds_toArray]); (try simp only [List.set_cons_succ]); (try simp only [List.set_cons_zero])
              refine wpAnyH_take (i := 13) (oi := { dst := some 55, op := Op.move (Operand.tmp 10), type := 4, pos := "ref.go:257", after := #[{ on := 12, ground := Ground.guard }], guard := some (12, false) }) (v := undef) rfl (by kernel_rfl) (by kernel_rfl) (by kernel_rfl) (fun _ _ _ h => h) (Or.inr ⟨by kernel_rfl, rfl⟩) (by assumption) ?r13u13
              (try simp only [Act.put]); (try simp only [List.setIfInBounds_toArray]); (try simp only [List.set_cons_succ]); (try simp only [List.set_cons_zero])
              refine wpAnyH_take (i := 14) (oi := { dst := some 56, op := Op.move (Operand.tmp 55), type := 4, pos := "ref.go:257", after := #[{ on := 13, ground := Ground.data }, { on := 12, ground := Ground.chain }, { on := 12, ground := Ground.guard }], guard := some (12, false) }) (v := undef) rfl (by kernel_rfl) (by kernel_rfl) (by kernel_rfl) (fun _ _ _ h => h) (Or.inr ⟨by kernel_rfl, rfl⟩) (by assumption) ?r14u14
              (try simp only [Act.put]); (try simp only [List.setIfInBounds_toArray]); (try simp only [List.set_cons_succ]); (try simp only [List.set_cons_zero])
              refine wpAnyH_take (i := 15) (oi := { dst := some 57, op := Op.move (Operand.tmp 7), type := 52, pos := "ref.go:257", after := #[{ on := 14, ground := Ground.guard }], guard := some (14, true) }) (v := undef) rfl (by kernel_rfl) (by kernel_rfl) (by kernel_rfl) (fun _ _ _ h => h) (Or.inr ⟨by kernel_rfl, rfl⟩) (by assumption) ?r15u15
              (try simp only [Act.put]); (try simp only [List.setIfInBounds_toArray]); (try simp only [List.set_cons_succ]); (try simp only [List.set_cons_zero])
              refine wpAnyH_take (i := 16) (oi := { dst := some 58, op := Op.move (Operand.tmp 9), type := 3, pos := "ref.go:257", after := #[{ on := 14, ground := Ground.guard }], guard := some (14, true) }) (v := undef) rfl (by kernel_rfl) (by kernel_rfl) (by kernel_rfl) (fun _ _ _ h => h) (Or.inr ⟨by kernel_rfl, rfl⟩) (by assumption) ?r16u16
              (try simp only [Act.put]); (try simp only [List.setIfInBounds_toArray]); (try simp only [List.set_cons_succ]); (try simp only [List.set_cons_zero])
              refine wpAnyH_take (i := 17) (oi := { dst := some 59, op := Op.indexAddr 52 (Operand.tmp 57) (Operand.tmp 58), type := 0, pos := "ref.go:257", after := #[{ on := 15, ground := Ground.data }, { on := 16, ground := Ground.data }, { on := 14, ground := Ground.guard }], guard := some (14, true) }) (v := undef) rfl (by kernel_rfl) (by kernel_rfl) (by kernel_rfl) (fun _ _ _ h => h) (Or.inr ⟨by kernel_rfl, rfl⟩) (by assumption) ?r17u17
              (try simp only [Act.put]); (try simp only [List.setIfInBounds_toArray]); (try simp only [List.set_cons_succ]); (try simp only [List.set_cons_zero])
              refine wpAnyH_take (i := 18) (oi := { dst := some 60, op := Op.fieldAddr 61 (Operand.tmp 59) 1, type := 0, pos := "ref.go:257", after := #[{ on := 17, ground := Ground.data }, { on := 14, ground := Ground.guard }], guard := some (14, true) }) (v := undef) rfl (by kernel_rfl) (by kernel_rfl) (by kernel_rfl) (fun _ _ _ h => h) (Or.inr ⟨by kernel_rfl, rfl⟩) (by assumption) ?r18u18
              (try simp only [Act.put]); (try simp only [List.setIfInBounds_toArray]); (try simp only [List.set_cons_succ]); (try simp only [List.set_cons_zero])
              refine wpAnyH_take (i := 19) (oi := { dst := some 61, op := Op.fieldAddr 37 (Operand.tmp 60) 0, type := 0, pos := "ref.go:257", after := #[{ on := 18, ground := Ground.data }, { on := 14, ground := Ground.guard }], guard := some (14, true) }) (v := undef) rfl (by kernel_rfl) (by kernel_rfl) (by kernel_rfl) (fun _ _ _ h => h) (Or.inr ⟨by kernel_rfl, rfl⟩) (by assumption) ?r19u19
              (try simp only [Act.put]); (try simp only [List.setIfInBounds_toArray]); (try simp only [List.set_cons_succ]); (try simp only [List.set_cons_zero])
              refine wpAnyH_take (i := 20) (oi := { dst := some 62, op := Op.load 9 (Operand.tmp 61), type := 9, pos := "ref.go:257", after := #[{ on := 19, ground := Ground.data }, { on := 14, ground := Ground.guard }], guard := some (14, true) }) (v := undef) rfl (by kernel_rfl) (by kernel_rfl) (by kernel_rfl) (fun _ _ _ h => h) (Or.inr ⟨by kernel_rfl, rfl⟩) (by assumption) ?r20u20
              (try simp only [Act.put]); (try simp only [List.setIfInBounds_toArray]); (try simp only [List.set_cons_succ]); (try simp only [List.set_cons_zero])
              refine wpAnyH_take (i := 21) (oi := { dst := some 63, op := Op.move (Operand.tmp 8), type := 52, pos := "ref.go:257", after := #[{ on := 14, ground := Ground.guard }], guard := some (14, true) }) (v := undef) rfl (by kernel_rfl) (by kernel_rfl) (by kernel_rfl) (fun _ _ _ h => h) (Or.inr ⟨by kernel_rfl, rfl⟩) (by assumption) ?r21u21
              (try simp only [Act.put]); (try simp only [List.setIfInBounds_toArray]); (try simp only [List.set_cons_succ]); (try simp only [List.set_cons_zero])
              refine wpAnyH_take (i := 22) (oi := { dst := some 64, op := Op.move (Operand.tmp 9), type := 3, pos := "ref.go:257", after := #[{ on := 14, ground := Ground.guard }], guard := some (14, true) }) (v := undef) rfl (by kernel_rfl) (by kernel_rfl) (by kernel_rfl) (fun _ _ _ h => h) (Or.inr ⟨by kernel_rfl, rfl⟩) (by assumption) ?r22u22
              (try simp only [Act.put]); (try simp only [List.setIfInBounds_toArray]); (try simp only [List.set_cons_succ]); (try simp only [List.set_cons_zero])
              refine wpAnyH_take (i := 23) (oi := { dst := some 65, op := Op.indexAddr 52 (Operand.tmp 63) (Operand.tmp 64), type := 0, pos := "ref.go:257", after := #[{ on := 21, ground := Ground.data }, { on := 22, ground := Ground.data }, { on := 14, ground := Ground.guard }], guard := some (14, true) }) (v := undef) rfl (by kernel_rfl) (by kernel_rfl) (by kernel_rfl) (fun _ _ _ h => h) (Or.inr ⟨by kernel_rfl, rfl⟩) (by assumption) ?r23u23
              (try simp only [Act.put]); (try simp only [List.setIfInBounds_toArray]); (try simp only [List.set_cons_succ]); (try simp only [List.set_cons_zero])
              refine wpAnyH_take (i := 24) (oi := { dst := some 66, op := Op.fieldAddr 61 (Operand.tmp 65) 1, type := 0, pos := "ref.go:257", after := #[{ on := 23, ground := Ground.data }, { on := 14, ground := Ground.guard }], guard := some (14, true) }) (v := undef) rfl (by kernel_rfl) (by kernel_rfl) (by kernel_rfl) (fun _ _ _ h => h) (Or.inr ⟨by kernel_rfl, rfl⟩) (by assumption) ?r24u24
              (try simp only [Act.put]); (try simp only [List.setIfInBounds_toArray]); (try simp only [List.set_cons_succ]); (try simp only [List.set_cons_zero])
              refine wpAnyH_take (i := 25) (oi := { dst := some 67, op := Op.fieldAddr 37 (Operand.tmp 66) 0, type := 0, pos := "ref.go:257", after := #[{ on := 24, ground := Ground.data }, { on := 14, ground := Ground.guard }], guard := some (14, true) }) (v := undef) rfl (by kernel_rfl) (by kernel_rfl) (by kernel_rfl) (fun _ _ _ h => h) (Or.inr ⟨by kernel_rfl, rfl⟩) (by assumption) ?r25u25
              (try simp only [Act.put]); (try simp only [List.setIfInBounds_toArray]); (try simp only [List.set_cons_succ]); (try simp only [List.set_cons_zero])
              refine wpAnyH_take (i := 26) (oi := { dst := some 68, op := Op.load 9 (Operand.tmp 67), type := 9, pos := "ref.go:257", after := #[{ on := 25, ground := Ground.data }, { on := 14, ground := Ground.guard }], guard := some (14, true) }) (v := undef) rfl (by kernel_rfl) (by kernel_rfl) (by kernel_rfl) (fun _ _ _ h => h) (Or.inr ⟨by kernel_rfl, rfl⟩) (by assumption) ?r26u26
              (try simp only [Act.put]); (try simp only [List.setIfInBounds_toArray]); (try simp only [List.set_cons_succ]); (try simp only [List.set_cons_zero])
              refine wpAnyH_take (i := 27) (oi := { dst := some 69, op := Op.binOp BinOp.neq 9 (Operand.tmp 62) (Operand.tmp 68) 9, type := 4, pos := "ref.go:257", after := #[{ on := 20, ground := Ground.data }, { on := 26, ground := Ground.data }, { on := 14, ground := Ground.guard }], guard := some (14, true) }) (v := undef) rfl (by kernel_rfl) (by kernel_rfl) (by kernel_rfl) (fun _ _ _ h => h) (Or.inr ⟨by kernel_rfl, rfl⟩) (by assumption) ?r27u27
              (try simp only [Act.put]); (try simp only [List.setIfInBounds_toArray]); (try simp only [List.set_cons_succ]); (try simp only [List.set_cons_zero])
              refine wpAnyH_take (i := 28) (oi := { dst := some 70, op := Op.pick (Operand.tmp 56) (Operand.tmp 69) (Operand.const (Value.bool false)), type := 4, pos := "ref.go:257", after := #[{ on := 14, ground := Ground.data }, { on := 27, ground := Ground.data }, { on := 12, ground := Ground.guard }], guard := some (12, false) }) (v := undef) rfl (by kernel_rfl) (by kernel_rfl) (by kernel_rfl) (fun _ _ _ h => h) (Or.inr ⟨by kernel_rfl, rfl⟩) (by assumption) ?r28u28
              (try simp only [Act.put]); (try simp only [List.setIfInBounds_toArray]); (try simp only [List.set_cons_succ]); (try simp only [List.set_cons_zero])
              refine wpAnyH_take (i := 29) (oi := { dst := some 71, op := Op.pick (Operand.tmp 54) (Operand.const (Value.bool true)) (Operand.tmp 70), type := 4, pos := "ref.go:257", after := #[{ on := 12, ground := Ground.data }, { on := 28, ground := Ground.data }], guard := none }) (v := ?v29u29) rfl (by kernel_rfl) (by kernel_rfl) (by kernel_rfl) (fun _ _ _ h => h) (Or.inl ⟨by rfl, ?y29u29⟩) (by assumption) ?r29u29
              case y29u29 => (intro w hSw; obtain ⟨-, s1, s2, s3, s4, s5, s6, s7, s8, s9, s10, s11, s12, s13, s14⟩ := hSw; go_simp; (try with_reducible rfl))
              (try simp only [Act.put]); (try simp only [List.setIfInBounds_toArray]); (try simp only [List.set_cons_succ]); (try simp only [List.set_cons_zero])
              refine wpAnyH_done (by kernel_rfl) ?_ _
              have HB := hidM hHeld.1.out.gr
              clear hHeld hk1 HIN
              go_wp2
              go_ret
              exact ⟨by rw [HRf.out HZ.out]; rfl, HG2.out.trans HB.out (fun _ _ h => h)⟩
            | true =>
              refine wpAnyH_take (i := 11) (oi := { dst := some 53, op := Op.unOp UnOp.not 4 (Operand.tmp 52), type := 4, pos := "ref.go:257", after := #[{ on := 10, ground := Ground.data }], guard := none }) (v := ?v11u30) rfl (by kernel_rfl) (by kernel_rfl) (by kernel_rfl) (fun _ _ _ h => h) (Or.inl ⟨by rfl, ?y11u30⟩) (by assumption) ?r11u30
              case y11u30 => (intro w hSw; obtain ⟨-, s1, s2, s3, s4, s5, s6, s7, s8, s9, s10, s11, s12, s13, s14⟩ := hSw; go_simp; (try with_reducible rfl))
              (try simp only [Act.put]); (try simp only [List.setIfInBounds_toArray]); (try simp only [List.set_cons_succ]); (try simp only [List.set_cons_zero])
              refine wpAnyH_take (i := 12) (oi := { dst := some 54, op := Op.move (Operand.tmp 53), type := 4, pos := "ref.go:257", after := #[{ on := 11, ground := Ground.data }, { on := 10, ground := Ground.chain }], guard := none }) (v := ?v12u31) rfl (by kernel_rfl) (by kernel_rfl) (by kernel_rfl) (fun _ _ _ h => h) (Or.inl ⟨by rfl, ?y12u31⟩) (by assumption) ?r12u31
              case y12u31 => (intro w hSw; obtain ⟨-, s1, s2, s3, s4, s5, s6, s7, s8, s9, s10, s11, s12, s13, s14⟩ := hSw; go_simp; (try with_reducible rfl))
              (try simp only [Act.put]); (try simp only [List.setIfInBounds_toArray]); (try simp only [List.set_cons_succ]); (try simp only [List.set_cons_zero])
              refine wpAnyH_take (i := 13) (oi := { dst := some 55, op := Op.move (Operand.tmp 10), type := 4, pos := "ref.go:257", after := #[{ on := 12, ground := Ground.guard }], guard := some (12, false) }) (v := ?v13u32) rfl (by kernel_rfl) (by kernel_rfl) (by kernel_rfl) (fun _ _ _ h => h) (Or.inl ⟨by rfl, ?y13u32⟩) (by assumption) ?r13u32
              case y13u32 => (intro w hSw; obtain ⟨-, s1, s2, s3, s4, s5, s6, s7, s8, s9, s10, s11, s12, s13, s14⟩ := hSw; go_simp; (try with_reducible rfl))
              (try simp only [Act.put]); (try simp only [List.setIfInBounds_toArray]); (try simp only [List.set_cons_succ]); (try simp only [List.set_cons_zero])
              refine wpAnyH_take (i := 14) (oi := { dst := some 56, op := Op.move (Operand.tmp 55), type := 4, pos := "ref.go:257", after := #[{ on := 13, ground := Ground.data }, { on := 12, ground := Ground.chain }, { on := 12, ground := Ground.guard }], guard := some (12, false) }) (v := ?v14u33) rfl (by kernel_rfl) (by kernel_rfl) (by kernel_rfl) (fun _ _ _ h => h) (Or.inl ⟨by rfl, ?y14u33⟩) (by assumption) ?r14u33
              case y14u33 => (intro w hSw; obtain ⟨-, s1, s2, s3, s4, s5, s6, s7, s8, s9, s10, s11, s12, s13, s14⟩ := hSw; go_simp; (try with_reducible rfl))
              (try simp only [Act.put]); (try simp only [List.setIfInBounds_toArray]); (try simp only [List.set_cons_succ]); (try simp only [List.set_cons_zero])
              refine wpAnyH_take (i := 15) (oi := { dst := some 57, op := Op.move (Operand.tmp 7), type := 52, pos := "ref.go:257", after := #[{ on := 14, ground := Ground.guard }], guard := some (14, true) }) (v := ?v15u34) rfl (by kernel_rfl) (by kernel_rfl) (by kernel_rfl) (fun _ _ _ h => h) (Or.inl ⟨by rfl, ?y15u34⟩) (by assumption) ?r15u34
              case y15u34 => (intro w hSw; obtain ⟨-, s1, s2, s3, s4, s5, s6, s7, s8, s9, s10, s11, s12, s13, s14⟩ := hSw; go_simp; (try with_reducible rfl))
              (try simp only [Act.put]); (try simp only [List.setIfInBounds_toArray]); (try simp only [List.set_cons_succ]); (try simp only [List.set_cons_zero])
              refine wpAnyH_take (i := 16) (oi := { dst := some 58, op := Op.move (Operand.tmp 9), type := 3, pos := "ref.go:257", after := #[{ on := 14, ground := Ground.guard }], guard := some (14, true) }) (v := ?v16u35) rfl (by kernel_rfl) (by kernel_rfl) (by kernel_rfl) (fun _ _ _ h => h) (Or.inl ⟨by rfl, ?y16u35⟩) (by assumption) ?r16u35
              case y16u35 => (intro w hSw; obtain ⟨-, s1, s2, s3, s4, s5, s6, s7, s8, s9, s10, s11, s12, s13, s14⟩ := hSw; go_simp; (try with_reducible rfl))
              (try simp only [Act.put]); (try simp only [List.setIfInBounds_toArray]); (try simp only [List.set_cons_succ]); (try simp only [List.set_cons_zero])
              refine wpAnyH_take (i := 17) (oi := { dst := some 59, op := Op.indexAddr 52 (Operand.tmp 57) (Operand.tmp 58), type := 0, pos := "ref.go:257", after := #[{ on := 15, ground := Ground.data }, { on := 16, ground := Ground.data }, { on := 14, ground := Ground.guard }], guard := some (14, true) }) (v := ?v17u36) rfl (by kernel_rfl) (by kernel_rfl) (by kernel_rfl) (fun _ _ _ h => h) (Or.inl ⟨by rfl, ?y17u36⟩) (by assumption) ?r17u36
              case y17u36 => (intro w hSw; obtain ⟨-, s1, s2, s3, s4, s5, s6, s7, s8, s9, s10, s11, s12, s13, s14⟩ := hSw; go_simp; (try with_reducible rfl))
              (try simp only [Act.put]); (try simp only [List.setIfInBounds_toArray]); (try simp only [List.set_cons_succ]); (try simp only [List.set_cons_zero])
              refine wpAnyH_take (i := 18) (oi := { dst := some 60, op := Op.fieldAddr 61 (Operand.tmp 59) 1, type := 0, pos := "ref.go:257", after := #[{ on := 17, ground := Ground.data }, { on := 14, ground := Ground.guard }], guard := some (14, true) }) (v := ?v18u37) rfl (by kernel_rfl) (by kernel_rfl) (by kernel_rfl) (fun _ _ _ h => h) (Or.inl ⟨by rfl, ?y18u37⟩) (by assumption) ?r18u37
              case y18u37 => (intro w hSw; obtain ⟨-, s1, s2, s3, s4, s5, s6, s7, s8, s9, s10, s11, s12, s13, s14⟩ := hSw; go_simp; (try with_reducible rfl))
              (try simp only [Act.put]); (try simp only [List.setIfInBounds_toArray]); (try simp only [List.set_cons_succ]); (try simp only [List.set_cons_zero])
              refine wpAnyH_take (i := 19) (oi := { dst := some 61, op := Op.fieldAddr 37 (Operand.tmp 60) 0, type := 0, pos := "ref.go:257", after := #[{ on := 18, ground := Ground.data }, { on := 14, ground := Ground.guard }], guard := some (14, true) }) (v := ?v19u38) rfl (by kernel_rfl) (by kernel_rfl) (by kernel_rfl) (fun _ _ _ h => h) (Or.inl ⟨by rfl, ?y19u38⟩) (by assumption) ?r19u38
              case y19u38 => (intro w hSw; obtain ⟨-, s1, s2, s3, s4, s5, s6, s7, s8, s9, s10, s11, s12, s13, s14⟩ := hSw; go_simp; (try with_reducible rfl))
              (try simp only [Act.put]); (try simp only [List.setIfInBounds_toArray]); (try simp only [List.set_cons_succ]); (try simp only [List.set_cons_zero])
              refine wpAnyH_take (i := 20) (oi := { dst := some 62, op := Op.load 9 (Operand.tmp 61), type := 9, pos := "ref.go:257", after := #[{ on := 19, ground := Ground.data }, { on := 14, ground := Ground.guard }], guard := some (14, true) }) (v := ?v20u39) rfl (by kernel_rfl) (by kernel_rfl) (by kernel_rfl) (fun _ _ _ h => h) (Or.inl ⟨by rfl, ?y20u39⟩) (by assumption) ?r20u39
              case y20u39 => (intro w hSw; obtain ⟨-, s1, s2, s3, s4, s5, s6, s7, s8, s9, s10, s11, s12, s13, s14⟩ := hSw; go_simp; (try with_reducible rfl))
              (try simp only [Act.put]); (try simp only [List.setIfInBounds_toArray]); (try simp only [List.set_cons_succ]); (try simp only [List.set_cons_zero])
              refine wpAnyH_take (i := 21) (oi := { dst := some 63, op := Op.move (Operand.tmp 8), type := 52, pos := "ref.go:257", after := #[{ on := 14, ground := Ground.guard }], guard := some (14, true) }) (v := ?v21u40) rfl (by kernel_rfl) (by kernel_rfl) (by kernel_rfl) (fun _ _ _ h => h) (Or.inl ⟨by rfl, ?y21u40⟩) (by assumption) ?r21u40
              case y21u40 => (intro w hSw; obtain ⟨-, s1, s2, s3, s4, s5, s6, s7, s8, s9, s10, s11, s12, s13, s14⟩ := hSw; go_simp; (try with_reducible rfl))
              (try simp only [Act.put]); (try simp only [List.setIfInBounds_toArray]); (try simp only [List.set_cons_succ]); (try simp only [List.set_cons_zero])
              refine wpAnyH_take (i := 22) (oi := { dst := some 64, op := Op.move (Operand.tmp 9), type := 3, pos := "ref.go:257", after := #[{ on := 14, ground := Ground.guard }], guard := some (14, true) }) (v := ?v22u41) rfl (by kernel_rfl) (by kernel_rfl) (by kernel_rfl) (fun _ _ _ h => h) (Or.inl ⟨by rfl, ?y22u41⟩) (by assumption) ?r22u41
              case y22u41 => (intro w hSw; obtain ⟨-, s1, s2, s3, s4, s5, s6, s7, s8, s9, s10, s11, s12, s13, s14⟩ := hSw; go_simp; (try with_reducible rfl))
              (try simp only [Act.put]); (try simp only [List.setIfInBounds_toArray]); (try simp only [List.set_cons_succ]); (try simp only [List.set_cons_zero])
              refine wpAnyH_take (i := 23) (oi := { dst := some 65, op := Op.indexAddr 52 (Operand.tmp 63) (Operand.tmp 64), type := 0, pos := "ref.go:257", after := #[{ on := 21, ground := Ground.data }, { on := 22, ground := Ground.data }, { on := 14, ground := Ground.guard }], guard := some (14, true) }) (v := ?v23u42) rfl (by kernel_rfl) (by kernel_rfl) (by kernel_rfl) (fun _ _ _ h => h) (Or.inl ⟨by rfl, ?y23u42⟩) (by assumption) ?r23u42
              case y23u42 => (intro w hSw; obtain ⟨-, s1, s2, s3, s4, s5, s6, s7, s8, s9, s10, s11, s12, s13, s14⟩ := hSw; go_simp; (try with_reducible rfl))
              (try simp only [Act.put]); (try simp only [List.setIfInBounds_toArray]); (try simp only [List.set_cons_succ]); (try simp only [List.set_cons_zero])
              refine wpAnyH_take (i := 24) (oi := { dst := some 66, op := Op.fieldAddr 61 (Operand.tmp 65) 1, type := 0, pos := "ref.go:257", after := #[{ on := 23, ground := Ground.data }, { on := 14, ground := Ground.guard }], guard := some (14, true) }) (v := ?v24u43) rfl (by kernel_rfl) (by kernel_rfl) (by kernel_rfl) (fun _ _ _ h => h) (Or.inl ⟨by rfl, ?y24u43⟩) (by assumption) ?r24u43
              case y24u43 => (intro w hSw; obtain ⟨-, s1, s2, s3, s4, s5, s6, s7, s8, s9, s10, s11, s12, s13, s14⟩ := hSw; go_simp; (try with_reducible rfl))
              (try simp only [Act.put]); (try simp only [List.setIfInBounds_toArray]); (try simp only [List.set_cons_succ]); (try simp only [List.set_cons_zero])
              refine wpAnyH_take (i := 25) (oi := { dst := some 67, op := Op.fieldAddr 37 (Operand.tmp 66) 0, type := 0, pos := "ref.go:257", after := #[{ on := 24, ground := Ground.data }, { on := 14, ground := Ground.guard }], guard := some (14, true) }) (v := ?v25u44) rfl (by kernel_rfl) (by kernel_rfl) (by kernel_rfl) (fun _ _ _ h => h) (Or.inl ⟨by rfl, ?y25u44⟩) (by assumption) ?r25u44
              case y25u44 => (intro w hSw; obtain ⟨-, s1, s2, s3, s4, s5, s6, s7, s8, s9, s10, s11, s12, s13, s14⟩ := hSw; go_simp; (try with_reducible rfl))
              (try simp only [Act.put]); (try simp only [List.setIfInBounds_toArray]); (try simp only [List.set_cons_succ]); (try simp only [List.set_cons_zero])
              refine wpAnyH_take (i := 26) (oi := { dst := some 68, op := Op.load 9 (Operand.tmp 67), type := 9, pos := "ref.go:257", after := #[{ on := 25, ground := Ground.data }, { on := 14, ground := Ground.guard }], guard := some (14, true) }) (v := ?v26u45) rfl (by kernel_rfl) (by kernel_rfl) (by kernel_rfl) (fun _ _ _ h => h) (Or.inl ⟨by rfl, ?y26u45⟩) (by assumption) ?r26u45
              case y26u45 => (intro w hSw; obtain ⟨-, s1, s2, s3, s4, s5, s6, s7, s8, s9, s10, s11, s12, s13, s14⟩ := hSw; go_simp; (try with_reducible rfl))
              (try simp only [Act.put]); (try simp only [List.setIfInBounds_toArray]); (try simp only [List.set_cons_succ]); (try simp only [List.set_cons_zero])
              cases hsq : (f.name.toList == q.name.toList) with
              | false =>
                have HZ : Hid (ndEq true x y = false) := by show _ = _; rw [HD.out, hsq]; simp [Bool.true_or]
                have hsn : (f.name.toList != q.name.toList) = true := by simp [bne, hsq]
                refine wpAnyH_take (i := 27) (oi := { dst := some 69, op := Op.binOp BinOp.neq 9 (Operand.tmp 62) (Operand.tmp 68) 9, type := 4, pos := "ref.go:257", after := #[{ on := 20, ground := Ground.data }, { on := 26, ground := Ground.data }, { on := 14, ground := Ground.guard }], guard := some (14, true) }) (v := ?v27u46) rfl (by kernel_rfl) (by kernel_rfl) (by kernel_rfl) (fun _ _ _ h => h) (Or.inl ⟨by rfl, ?y27u46⟩) (by assumption) ?r27u46
                case y27u46 => (intro w hSw; obtain ⟨-, s1, s2, s3, s4, s5, s6, s7, s8, s9, s10, s11, s12, s13, s14⟩ := hSw; go_simp; (try with_reducible rfl))
                (try simp only [Act.put]); (try simp only [List.setIfInBounds_toArray]); (try simp only [List.set_cons_succ]); (try simp only [List.set_cons_zero])
                refine wpAnyH_take (i := 28) (oi := { dst := some 70, op := Op.pick (Operand.tmp 56) (Operand.tmp 69) (Operand.const (Value.bool false)), type := 4, pos := "ref.go:257", after := #[{ on := 14, ground := Ground.data }, { on := 27, ground := Ground.data }, { on := 12, ground := Ground.guard }], guard := some (12, false) }) (v := ?v28u47) rfl (by kernel_rfl) (by kernel_rfl) (by kernel_rfl) (fun _ _ _ h => h) (Or.inl ⟨by rfl, ?y28u47⟩) (by assumption) ?r28u47
                case y28u47 => (intro w hSw; obtain ⟨-, s1, s2, s3, s4, s5, s6, s7, s8, s9, s10, s11, s12, s13, s14⟩ := hSw; go_simp; (try with_reducible rfl))
                (try simp only [Act.put]); (try simp only [List.setIfInBounds_toArray]); (try simp only [List.set_cons_succ]); (try simp only [List.set_cons_zero])
                refine wpAnyH_take (i := 29) (oi := { dst := some 71, op := Op.pick (Operand.tmp 54) (Operand.const (Value.bool true)) (Operand.tmp 70), type := 4, pos := "ref.go:257", after := #[{ on := 12, ground := Ground.data }, { on := 28, ground := Ground.data }], guard := none }) (v := ?v29u48) rfl (by kernel_rfl) (by kernel_rfl) (by kernel_rfl) (fun _ _ _ h => h) (Or.inl ⟨by rfl, ?y29u48⟩) (by assumption) ?r29u48
                case y29u48 => (intro w hSw; obtain ⟨-, s1, s2, s3, s4, s5, s6, s7, s8, s9, s10, s11, s12, s13, s14⟩ := hSw; go_simp; (try with_reducible rfl))
                (try simp only [Act.put]); (try simp only [List.setIfInBounds_toArray]); (try simp only [List.set_cons_succ]); (try simp only [List.set_cons_zero])
                refine wpAnyH_done (by kernel_rfl) ?_ _
                have HB := hidM hHeld.1.out.gr
                clear hHeld hk1 HIN
                go_wp2
                go_ret
                exact ⟨by rw [HRf.out HZ.out]; rfl, HG2.out.trans HB.out (fun _ _ h => h)⟩
              | true =>
                have HZ : Hid (ndEq true x y = true) := by show _ = _; rw [HD.out, hsq]; simp
                have hsn : (f.name.toList != q.name.toList) = false := by simp [bne, hsq]
                refine wpAnyH_take (i := 27) (oi := { dst := some 69, op := Op.binOp BinOp.neq 9 (Operand.tmp 62) (Operand.tmp 68) 9, type := 4, pos := "ref.go:257", after := #[{ on := 20, ground := Ground.data }, { on := 26, ground := Ground.data }, { on := 14, ground := Ground.guard }], guard := some (14, true) }) (v := ?v27u49) rfl (by kernel_rfl) (by kernel_rfl) (by kernel_rfl) (fun _ _ _ h => h) (Or.inl ⟨by rfl, ?y27u49⟩) (by assumption) ?r27u49
                case y27u49 => (intro w hSw; obtain ⟨-, s1, s2, s3, s4, s5, s6, s7, s8, s9, s10, s11, s12, s13, s14⟩ := hSw; go_simp; (try with_reducible rfl))
                (try simp only [Act.put]); (try simp only [List.setIfInBounds_toArray]); (try simp only [List.set_cons_succ]); (try simp only [List.set_cons_zero])
                refine wpAnyH_take (i := 28) (oi := { dst := some 70, op := Op.pick (Operand.tmp 56) (Operand.tmp 69) (Operand.const (Value.bool false)), type := 4, pos := "ref.go:257", after := #[{ on := 14, ground := Ground.data }, { on := 27, ground := Ground.data }, { on := 12, ground := Ground.guard }], guard := some (12, false) }) (v := ?v28u50) rfl (by kernel_rfl) (by kernel_rfl) (by kernel_rfl) (fun _ _ _ h => h) (Or.inl ⟨by rfl, ?y28u50⟩) (by assumption) ?r28u50
                case y28u50 => (intro w hSw; obtain ⟨-, s1, s2, s3, s4, s5, s6, s7, s8, s9, s10, s11, s12, s13, s14⟩ := hSw; go_simp; (try with_reducible rfl))
                (try simp only [Act.put]); (try simp only [List.setIfInBounds_toArray]); (try simp only [List.set_cons_succ]); (try simp only [List.set_cons_zero])
                refine wpAnyH_take (i := 29) (oi := { dst := some 71, op := Op.pick (Operand.tmp 54) (Operand.const (Value.bool true)) (Operand.tmp 70), type := 4, pos := "ref.go:257", after := #[{ on := 12, ground := Ground.data }, { on := 28, ground := Ground.data }], guard := none }) (v := ?v29u51) rfl (by kernel_rfl) (by kernel_rfl) (by kernel_rfl) (fun _ _ _ h => h) (Or.inl ⟨by rfl, ?y29u51⟩) (by assumption) ?r29u51
                case y29u51 => (intro w hSw; obtain ⟨-, s1, s2, s3, s4, s5, s6, s7, s8, s9, s10, s11, s12, s13, s14⟩ := hSw; go_simp; (try with_reducible rfl))
                (try simp only [Act.put]); (try simp only [List.setIfInBounds_toArray]); (try simp only [List.set_cons_succ]); (try simp only [List.set_cons_zero])
                refine wpAnyH_done (by kernel_rfl) ?_ _
                have HB := hidM hHeld.1.out.gr
                clear hHeld hk1 HIN
                go_wp2
                go_roundw
                case rel =>
                  refine ⟨k + 1, by omega, by simp, HB.out, fun i hi hi' h => ?_⟩
                  by_cases e : i = k
                  · subst e; rw [← HX.out, ← HY.out]; exact HZ.out
                  · exact HP.out i hi hi' (by omega)
                case measure => simp [intOf]; omega
          | false =>
            by_cases h1 : 1 < P
            · have h1' : (1 : Int) < (P : Int) := by omega
              go_wp2
              clear c0
              refine wp_region_held_drew (S := fun w' => Hid (TwoN w2 w' g h k f q fo eo fc ec) ∧ w'.cell? ⟨g, k * 10 + 1, none⟩ = some (.string f.name) ∧ w'.cell? ⟨g, k * 10 + 2, none⟩ = some (.bool f.nul) ∧ w'.cell? ⟨g, k * 10 + 3, none⟩ = some (.int .i64 f.kind) ∧ w'.cell? ⟨g, k * 10 + 4, none⟩ = some (.int .i64 f.width) ∧ w'.cell? ⟨g, k * 10 + 5, none⟩ = some (.int .i64 f.id) ∧ w'.cell? ⟨g, k * 10 + 6, none⟩ = some (.int .i64 f.index) ∧ w'.cell? ⟨g, k * 10 + 7, none⟩ = some (.slice fo f.kids.length fc) ∧ w'.cell? ⟨h, k * 10 + 1, none⟩ = some (.string q.name) ∧ w'.cell? ⟨h, k * 10 + 2, none⟩ = some (.bool q.nul) ∧ w'.cell? ⟨h, k * 10 + 3, none⟩ = some (.int .i64 q.kind) ∧ w'.cell? ⟨h, k * 10 + 4, none⟩ = some (.int .i64 q.width) ∧ w'.cell? ⟨h, k * 10 + 5, none⟩ = some (.int .i64 q.id) ∧ w'.cell? ⟨h, k * 10 + 6, none⟩ = some (.int .i64 q.index) ∧ w'.cell? ⟨h, k * 10 + 7, none⟩ = some (.slice eo q.kids.length ec)) (by kernel_rfl) HIN.out (fun hHeld => ?_)
              refine wpAnyH_take (i := 0) (oi := { dst := some 42, op := Op.move (Operand.tmp 7), type := 52, pos := "ref.go:257", after := #[], guard := none }) (v := ?v0u52) rfl (by kernel_rfl) (by kernel_rfl) (by kernel_rfl) (fun _ _ _ h => h) (Or.inl ⟨by rfl, ?y0u52⟩) (by assumption) ?r0u52
              case y0u52 => (intro w hSw; obtain ⟨-, s1, s2, s3, s4, s5, s6, s7, s8, s9, s10, s11, s12, s13, s14⟩ := hSw; go_simp; (try with_reducible rfl))
              (try simp only [Act.put]); (try simp only [List.setIfInBounds_toArray]); (try simp only [List.set_cons_succ]); (try simp only [List.set_cons_zero])
              refine wpAnyH_take (i := 1) (oi := { dst := some 43, op := Op.move (Operand.tmp 9), type := 3, pos := "ref.go:257", after := #[], guard := none }) (v := ?v1u53) rfl (by kernel_rfl) (by kernel_rfl) (by kernel_rfl) (fun _ _ _ h => h) (Or.inl ⟨by rfl, ?y1u53⟩) (by assumption) ?r1u53
              case y1u53 => (intro w hSw; obtain ⟨-, s1, s2, s3, s4, s5, s6, s7, s8, s9, s10, s11, s12, s13, s14⟩ := hSw; go_simp; (try with_reducible rfl))
              (try simp only [Act.put]); (try simp only [List.setIfInBounds_toArray]); (try simp only [List.set_cons_succ]); (try simp only [List.set_cons_zero])
              refine wpAnyH_take (i := 2) (oi := { dst := some 44, op := Op.indexAddr 52 (Operand.tmp 42) (Operand.tmp 43), type := 0, pos := "ref.go:257", after := #[{ on := 0, ground := Ground.data }, { on := 1, ground := Ground.data }], guard := none }) (v := ?v2u54) rfl (by kernel_rfl) (by kernel_rfl) (by kernel_rfl) (fun _ _ _ h => h) (Or.inl ⟨by rfl, ?y2u54⟩) (by assumption) ?r2u54
              case y2u54 => (intro w hSw; obtain ⟨-, s1, s2, s3, s4, s5, s6, s7, s8, s9, s10, s11, s12, s13, s14⟩ := hSw; go_simp; (try with_reducible rfl))
              (try simp only [Act.put]); (try simp only [List.setIfInBounds_toArray]); (try simp only [List.set_cons_succ]); (try simp only [List.set_cons_zero])
              refine wpAnyH_take (i := 3) (oi := { dst := some 45, op := Op.fieldAddr 61 (Operand.tmp 44) 1, type := 0, pos := "ref.go:257", after := #[{ on := 2, ground := Ground.data }], guard := none }) (v := ?v3u55) rfl (by kernel_rfl) (by kernel_rfl) (by kernel_rfl) (fun _ _ _ h => h) (Or.inl ⟨by rfl, ?y3u55⟩) (by assumption) ?r3u55
              case y3u55 => (intro w hSw; obtain ⟨-, s1, s2, s3, s4, s5, s6, s7, s8, s9, s10, s11, s12, s13, s14⟩ := hSw; go_simp; (try with_reducible rfl))
              (try simp only [Act.put]); (try simp only [List.setIfInBounds_toArray]); (try simp only [List.set_cons_succ]); (try simp only [List.set_cons_zero])
              refine wpAnyH_take (i := 4) (oi := { dst := some 46, op := Op.load 37 (Operand.tmp 45), type := 37, pos := "ref.go:257", after := #[{ on := 3, ground := Ground.data }], guard := none }) (v := ?v4u56) rfl (by kernel_rfl) (by kernel_rfl) (by kernel_rfl) (fun _ _ _ h => h) (Or.inl ⟨by rfl, ?y4u56⟩) (by assumption) ?r4u56
              case y4u56 => (intro w hSw; obtain ⟨-, s1, s2, s3, s4, s5, s6, s7, s8, s9, s10, s11, s12, s13, s14⟩ := hSw; go_simp; (try with_reducible rfl))
              (try simp only [Act.put]); (try simp only [List.setIfInBounds_toArray]); (try simp only [List.set_cons_succ]); (try simp only [List.set_cons_zero])
              refine wpAnyH_take (i := 5) (oi := { dst := some 47, op := Op.move (Operand.tmp 8), type := 52, pos := "ref.go:257", after := #[], guard := none }) (v := ?v5u57) rfl (by kernel_rfl) (by kernel_rfl) (by kernel_rfl) (fun _ _ _ h => h) (Or.inl ⟨by rfl, ?y5u57⟩) (by assumption) ?r5u57
              case y5u57 => (intro w hSw; obtain ⟨-, s1, s2, s3, s4, s5, s6, s7, s8, s9, s10, s11, s12, s13, s14⟩ := hSw; go_simp; (try with_reducible rfl))
              (try simp only [Act.put]); (try simp only [List.setIfInBounds_toArray]); (try simp only [List.set_cons_succ]); (try simp only [List.set_cons_zero])
              refine wpAnyH_take (i := 6) (oi := { dst := some 48, op := Op.move (Operand.tmp 9), type := 3, pos := "ref.go:257", after := #[], guard := none }) (v := ?v6u58) rfl (by kernel_rfl) (by kernel_rfl) (by kernel_rfl) (fun _ _ _ h => h) (Or.inl ⟨by rfl, ?y6u58⟩) (by assumption) ?r6u58
              case y6u58 => (intro w hSw; obtain ⟨-, s1, s2, s3, s4, s5, s6, s7, s8, s9, s10, s11, s12, s13, s14⟩ := hSw; go_simp; (try with_reducible rfl))
              (try simp only [Act.put]); (try simp only [List.setIfInBounds_toArray]); (try simp only [List.set_cons_succ]); (try simp only [List.set_cons_zero])
              refine wpAnyH_take (i := 7) (oi := { dst := some 49, op := Op.indexAddr 52 (Operand.tmp 47) (Operand.tmp 48), type := 0, pos := "ref.go:257", after := #[{ on := 5, ground := Ground.data }, { on := 6, ground := Ground.data }], guard := none }) (v := ?v7u59) rfl (by kernel_rfl) (by kernel_rfl) (by kernel_rfl) (fun _ _ _ h => h) (Or.inl ⟨by rfl, ?y7u59⟩) (by assumption) ?r7u59
              case y7u59 => (intro w hSw; obtain ⟨-, s1, s2, s3, s4, s5, s6, s7, s8, s9, s10, s11, s12, s13, s14⟩ := hSw; go_simp; (try with_reducible rfl))
              (try simp only [Act.put]); (try simp only [List.setIfInBounds_toArray]); (try simp only [List.set_cons_succ]); (try simp only [List.set_cons_zero])
              refine wpAnyH_take (i := 8) (oi := { dst := some 50, op := Op.fieldAddr 61 (Operand.tmp 49) 1, type := 0, pos := "ref.go:257", after := #[{ on := 7, ground := Ground.data }], guard := none }) (v := ?v8u60) rfl (by kernel_rfl) (by kernel_rfl) (by kernel_rfl) (fun _ _ _ h => h) (Or.inl ⟨by rfl, ?y8u60⟩) (by assumption) ?r8u60
              case y8u60 => (intro w hSw; obtain ⟨-, s1, s2, s3, s4, s5, s6, s7, s8, s9, s10, s11, s12, s13, s14⟩ := hSw; go_simp; (try with_reducible rfl))
              (try simp only [Act.put]); (try simp only [List.setIfInBounds_toArray]); (try simp only [List.set_cons_succ]); (try simp only [List.set_cons_zero])
              refine wpAnyH_take (i := 9) (oi := { dst := some 51, op := Op.load 37 (Operand.tmp 50), type := 37, pos := "ref.go:257", after := #[{ on := 8, ground := Ground.data }], guard := none }) (v := ?v9u61) rfl (by kernel_rfl) (by kernel_rfl) (by kernel_rfl) (fun _ _ _ h => h) (Or.inl ⟨by rfl, ?y9u61⟩) (by assumption) ?r9u61
              case y9u61 => (intro w hSw; obtain ⟨-, s1, s2, s3, s4, s5, s6, s7, s8, s9, s10, s11, s12, s13, s14⟩ := hSw; go_simp; (try with_reducible rfl))
              (try simp only [Act.put]); (try simp only [List.setIfInBounds_toArray]); (try simp only [List.set_cons_succ]); (try simp only [List.set_cons_zero])
              refine wpAnyH_ready (rs := [10]) (by kernel_rfl) (by simp) ?_
              refine AllReadyH.cons (o := { dst := some 52, op := Op.call { callee := Callee.value (Operand.func 78), args := #[Operand.tmp 46, Operand.tmp 51], argTypes := #[37, 37] }, type := 4, pos := "ref.go:257", after := #[{ on := 4, ground := Ground.data }, { on := 9, ground := Ground.data }], guard := none }) rfl (fun K hK => ?_) AllReadyH.nil
              go_simp
              go_at_call 78
              refine Calls.mono (C78.out _) ?_
              rintro e' v1 ⟨rfl, hk1⟩
              replace hk1 := hidM hk1
              go_wp2_with fail
              refine hK.out _ _ (twoN_kept hHeld hk1) (fun hHeld => ?_)
              clear hK K
              (try simp only [Act.put]); (try simp only [List.setIfInBounds_toArray]); (try simp only [List.set_cons_succ]); (try simp only [List.set_cons_zero])
              cases r with
              | false =>
                have HZ : Hid (ndEq false x y = false) := by show _ = _; rw [HD.out]; rfl
                refine wpAnyH_take (i := 11) (oi := { dst := some 53, op := Op.unOp UnOp.not 4 (Operand.tmp 52), type := 4, pos := "ref.go:257", after := #[{ on := 10, ground := Ground.data }], guard := none }) (v := ?v11u62) rfl (by kernel_rfl) (by kernel_rfl) (by kernel_rfl) (fun _ _ _ h => h) (Or.inl ⟨by rfl, ?y11u62⟩) (by assumption) ?r11u62
                case y11u62 => (intro w hSw; obtain ⟨-, s1, s2, s3, s4, s5, s6, s7, s8, s9, s10, s11, s12, s13, s14⟩ := hSw; go_simp; (try with_reducible rfl))
                (try simp only [Act.put]); (try simp only [List.setIfInBounds_toArray]); (try simp only [List.set_cons_succ]); (try simp only [List.set_cons_zero])
                refine wpAnyH_take (i := 12) (oi := { dst := some 54, op := Op.move (Operand.tmp 53), type := 4, pos := "ref.go:257", after := #[{ on := 11, ground := Ground.data }, { on := 10, ground := Ground.chain }], guard := none }) (v := ?v12u63) rfl (by kernel_rfl) (by kernel_rfl) (by kernel_rfl) (fun _ _ _ h => h) (Or.inl ⟨by rfl, ?y12u63⟩) (by assumption) ?r12u63
                case y12u63 => (intro w hSw; obtain ⟨-, s1, s2, s3, s4, s5, s6, s7, s8, s9, s10, s11, s12, s13, s14⟩ := hSw; go_simp; (try with_reducible rfl))
                (try simp only [Act.put]); (try simp only [List.setIfInBounds_toArray]); (try simp only [List.set_cons_succ]); (try simp only [List.set_cons_zero])
                refine wpAnyH_take (i := 13) (oi := { dst := some 55, op := Op.move (Operand.tmp 10), type := 4, pos := "ref.go:257", after := #[{ on := 12, ground := Ground.guard }], guard := some (12, false) }) (v := undef) rfl (by kernel_rfl) (by kernel_rfl) (by kernel_rfl) (fun _ _ _ h => h) (Or.inr ⟨by kernel_rfl, rfl⟩) (by assumption) ?r13u64
                (try simp only [Act.put]); (try simp only [List.setIfInBounds_toArray]); (try simp only [List.set_cons_succ]); (try simp only [List.set_cons_zero])
                refine wpAnyH_take (i := 14) (oi := { dst := some 56, op := Op.move (Operand.tmp 55), type := 4, pos := "ref.go:257", after := #[{ on := 13, ground := Ground.data }, { on := 12, ground := Ground.chain }, { on := 12, ground := Ground.guard }], guard := some (12, false) }) (v := undef) rfl (by kernel_rfl) (by kernel_rfl) (by kernel_rfl) (fun _ _ _ h => h) (Or.inr ⟨by kernel_rfl, rfl⟩) (by assumption) ?r14u65
                (try simp only [Act.put]); (try simp only [List.setIfInBounds_toArray]); (try simp only [List.set_cons_succ]); (try simp only [List.set_cons_zero])
                refine wpAnyH_take (i := 15) (oi := { dst := some 57, op := Op.move (Operand.tmp 7), type := 52, pos := "ref.go:257", after := #[{ on := 14, ground := Ground.guard }], guard := some (14, true) }) (v := undef) rfl (by kernel_rfl) (by kernel_rfl) (by kernel_rfl) (fun _ _ _ h => h) (Or.inr ⟨by kernel_rfl, rfl⟩) (by assumption) ?r15u66
                (try simp only [Act.put]); (try simp only [List.setIfInBounds_toArray]); (try simp only [List.set_cons_succ]); (try simp only [List.set_cons_zero])
                refine wpAnyH_take (i := 16) (oi := { dst := some 58, op := Op.move (Operand.tmp 9), type := 3, pos := "ref.go:257", after := #[{ on := 14, ground := Ground.guard }], guard := some (14, true) }) (v := undef) rfl (by kernel_rfl) (by kernel_rfl) (by kernel_rfl) (fun _ _ _ h => h) (Or.inr ⟨by kernel_rfl, rfl⟩) (by assumption) ?r16u67
                (try simp only [Act.put]); (try simp only [List.setIfInBounds_toArray]); (try simp only [List.set_cons_succ]); (try simp only [List.set_cons_zero])
                refine wpAnyH_take (i := 17) (oi := { dst := some 59, op := Op.indexAddr 52 (Operand.tmp 57) (Operand.tmp 58), type := 0, pos := "ref.go:257", after := #[{ on := 15, ground := Ground.data }, { on := 16, ground := Ground.data }, { on := 14, ground := Ground.guard }], guard := some (14, true) }) (v := undef) rfl (by kernel_rfl) (by kernel_rfl) (by kernel_rfl) (fun _ _ _ h => h) (Or.inr ⟨by kernel_rfl, rfl⟩) (by assumption) ?r17u68
                (try simp only [Act.put]); (try simp only [List.setIfInBounds_toArray]); (try simp only [List.set_cons_succ]); (try simp only [List.set_cons_zero])
                refine wpAnyH_take (i := 18) (oi := { dst := some 60, op := Op.fieldAddr 61 (Operand.tmp 59) 1, type := 0, pos := "ref.go:257", after := #[{ on := 17, ground := Ground.data }, { on := 14, ground := Ground.guard }], guard := some (14, true) }) (v := undef) rfl (by kernel_rfl) (by kernel_rfl) (by kernel_rfl) (fun _ _ _ h => h) (Or.inr ⟨by kernel_rfl, rfl⟩) (by assumption) ?r18u69
                (try simp only [Act.put]); (try simp only [List.setIfInBounds_toArray]); (try simp only [List.set_cons_succ]); (try simp only [List.set_cons_zero])
                refine wpAnyH_take (i := 19) (oi := { dst := some 61, op := Op.fieldAddr 37 (Operand.tmp 60) 0, type := 0, pos := "ref.go:257", after := #[{ on := 18, ground := Ground.data }, { on := 14, ground := Ground.guard }], guard := some (14, true) }) (v := undef) rfl (by kernel_rfl) (by kernel_rfl) (by kernel_rfl) (fun _ _ _ h => h) (Or.inr ⟨by kernel_rfl, rfl⟩) (by assumption) ?r19u70
                (try simp only [Act.put]); (try simp only [List.setIfInBounds_toArray]); (try simp only [List.set_cons_succ]); (try simp only [List.set_cons_zero])
                refine wpAnyH_take (i := 20) (oi := { dst := some 62, op := Op.load 9 (Operand.tmp 61), type := 9, pos := "ref.go:257", after := #[{ on := 19, ground := Ground.data }, { on := 14, ground := Ground.guard }], guard := some (14, true) }) (v := undef) rfl (by kernel_rfl) (by kernel_rfl) (by kernel_rfl) (fun _ _ _ h => h) (Or.inr ⟨by kernel_rfl, rfl⟩) (by assumption) ?r20u71
                (try simp only [Act.put]); (try simp only [List.setIfInBounds_toArray]); (try simp only [List.set_cons_succ]); (try simp only [List.set_cons_zero])
                refine wpAnyH_take (i := 21) (oi := { dst := some 63, op := Op.move (Operand.tmp 8), type := 52, pos := "ref.go:257", after := #[{ on := 14, ground := Ground.guard }], guard := some (14, true) }) (v := undef) rfl (by kernel_rfl) (by kernel_rfl) (by kernel_rfl) (fun _ _ _ h => h) (Or.inr ⟨by kernel_rfl, rfl⟩) (by assumption) ?r21u72
                (try simp only [Act.put]); (try simp only [List.setIfInBounds_toArray]); (try simp only [List.set_cons_succ]); (try simp only [List.set_cons_zero])
                refine wpAnyH_take (i := 22) (oi := { dst := some 64, op := Op.move (Operand.tmp 9), type := 3, pos := "ref.go:257", after := #[{ on := 14, ground := Ground.guard }], guard := some (14, true) }) (v := undef) rfl (by kernel_rfl) (by kernel_rfl) (by kernel_rfl) (fun _ _ _ h => h) (Or.inr ⟨by kernel_rfl, rfl⟩) (by assumption) ?r22u73
                (try simp only [Act.put]); (try simp only [List.setIfInBounds_toArray]); (try simp only [List.set_cons_succ]); (try simp only [List.set_cons_zero])
                refine wpAnyH_take (i := 23) (oi := { dst := some 65, op := Op.indexAddr 52 (Operand.tmp 63) (Operand.tmp 64), type := 0, pos := "ref.go:257", after := #[{ on := 21, ground := Ground.data }, { on := 22, ground := Ground.data }, { on := 14, ground := Ground.guard }], guard := some (14, true) }) (v := undef) rfl (by kernel_rfl) (by kernel_rfl) (by kernel_rfl) (fun _ _ _ h => h) (Or.inr ⟨by kernel_rfl, rfl⟩) (by assumption) ?r23u74
                (try simp only [Act.put]); (try simp only [List.setIfInBounds_toArray]); (try simp only [List.set_cons_succ]); (try simp only [List.set_cons_zero])
                refine wpAnyH_take (i := 24) (oi := { dst := some 66, op := Op.fieldAddr 61 (Operand.tmp 65) 1, type := 0, pos := "ref.go:257", after := #[{ on := 23, ground := Ground.data }, { on := 14, ground := Ground.guard }], guard := some (14, true) }) (v := undef) rfl (by kernel_rfl) (by kernel_rfl) (by kernel_rfl) (fun _ _ _ h => h) (Or.inr ⟨by kernel_rfl, rfl⟩) (by assumption) ?r24u75
                (try simp only [Act.put]); (try simp only [List.setIfInBounds_toArray]); (try simp only [List.set_cons_succ]); (try simp only [List.set_cons_zero])
                refine wpAnyH_take (i := 25) (oi := { dst := some 67, op := Op.fieldAddr 37 (Operand.tmp 66) 0, type := 0, pos := "ref.go:257", after := #[{ on := 24, ground := Ground.data }, { on := 14, ground := Ground.guard }], guard := some (14, true) }) (v := undef) rfl (by kernel_rfl) (by kernel_rfl) (by kernel_rfl) (fun _ _ _ h => h) (Or.inr ⟨by kernel_rfl, rfl⟩) (by assumption) ?r25u76
                (try simp only [Act.put]); (try simp only [List.setIfInBounds_toArray]); (try simp only [List.set_cons_succ]); (try simp only [List.set_cons_zero])
                refine wpAnyH_take (i := 26) (oi := { dst := some 68, op := Op.load 9 (Operand.tmp 67), type := 9, pos := "ref.go:257", after := #[{ on := 25, ground := Ground.data }, { on := 14, ground := Ground.guard }], guard := some (14, true) }) (v := undef) rfl (by kernel_rfl) (by kernel_rfl) (by kernel_rfl) (fun _ _ _ h => h) (Or.inr ⟨by kernel_rfl, rfl⟩) (by assumption) ?r26u77
                (try simp only [Act.put]); (try simp only [List.setIfInBounds_toArray]); (try simp only [List.set_cons_succ]); (try simp only [List.set_cons_zero])
                refine wpAnyH_take (i := 27) (oi := { dst := some 69, op := Op.binOp BinOp.neq 9 (Operand.tmp 62) (Operand.tmp 68) 9, type := 4, pos := "ref.go:257", after := #[{ on := 20, ground := Ground.data }, { on := 26, ground := Ground.data }, { on := 14, ground := Ground.guard }], guard := some (14, true) }) (v := undef) rfl (by kernel_rfl) (by kernel_rfl) (by kernel_rfl) (fun _ _ _ h => h) (Or.inr ⟨by kernel_rfl, rfl⟩) (by assumption) ?r27u78
                (try simp only [Act.put]); (try simp only [List.setIfInBounds_toArray]); (try simp only [List.set_cons_succ]); (try simp only [List.set_cons_zero])
                refine wpAnyH_take (i := 28) (oi := { dst := some 70, op := Op.pick (Operand.tmp 56) (Operand.tmp 69) (Operand.const (Value.bool false)), type := 4, pos := "ref.go:257", after := #[{ on := 14, ground := Ground.data }, { on := 27, ground := Ground.data }, { on := 12, ground := Ground.guard }], guard := some (12, false) }) (v := undef) rfl (by kernel_rfl) (by kernel_rfl) (by kernel_rfl) (fun _ _ _ h => h) (Or.inr ⟨by kernel_rfl, rfl⟩) (by assumption) ?r28u79
                (try simp only [Act.put]); (try simp only [List.setIfInBounds_toArray]); (try simp only [List.set_cons_succ]); (try simp only [List.set_cons_zero])
                refine wpAnyH_take (i := 29) (oi := { dst := some 71, op := Op.pick (Operand.tmp 54) (Operand.const (Value.bool true)) (Operand.tmp 70), type := 4, pos := "ref.go:257", after := #[{ on := 12, ground := Ground.data }, { on := 28, ground := Ground.data }], guard := none }) (v := ?v29u80) rfl (by kernel_rfl) (by kernel_rfl) (by kernel_rfl) (fun _ _ _ h => h) (Or.inl ⟨by rfl, ?y29u80⟩) (by assumption) ?r29u80
                case y29u80 => (intro w hSw; obtain ⟨-, s1, s2, s3, s4, s5, s6, s7, s8, s9, s10, s11, s12, s13, s14⟩ := hSw; go_simp; (try with_reducible rfl))
                (try simp only [Act.put]); (try simp only [List.setIfInBounds_toArray]); (try simp only [List.set_cons_succ]); (try simp only [List.set_cons_zero])
                refine wpAnyH_done (by kernel_rfl) ?_ _
                have HB := hidM hHeld.1.out.gr
                clear hHeld hk1 HIN
                go_wp2
                go_ret
                exact ⟨by rw [HRf.out HZ.out]; rfl, HG2.out.trans HB.out (fun _ _ h => h)⟩
              | true =>
                refine wpAnyH_take (i := 11) (oi := { dst := some 53, op := Op.unOp UnOp.not 4 (Operand.tmp 52), type := 4, pos := "ref.go:257", after := #[{ on := 10, ground := Ground.data }], guard := none }) (v := ?v11u81) rfl (by kernel_rfl) (by kernel_rfl) (by kernel_rfl) (fun _ _ _ h => h) (Or.inl ⟨by rfl, ?y11u81⟩) (by assumption) ?r11u81
                case y11u81 => (intro w hSw; obtain ⟨-, s1, s2, s3, s4, s5, s6, s7, s8, s9, s10, s11, s12, s13, s14⟩ := hSw; go_simp; (try with_reducible rfl))
                (try simp only [Act.put]); (try simp only [List.setIfInBounds_toArray]); (try simp only [List.set_cons_succ]); (try simp only [List.set_cons_zero])
                refine wpAnyH_take (i := 12) (oi := { dst := some 54, op := Op.move (Operand.tmp 53), type := 4, pos := "ref.go:257", after := #[{ on := 11, ground := Ground.data }, { on := 10, ground := Ground.chain }], guard := none }) (v := ?v12u82) rfl (by kernel_rfl) (by kernel_rfl) (by kernel_rfl) (fun _ _ _ h => h) (Or.inl ⟨by rfl, ?y12u82⟩) (by assumption) ?r12u82
                case y12u82 => (intro w hSw; obtain ⟨-, s1, s2, s3, s4, s5, s6, s7, s8, s9, s10, s11, s12, s13, s14⟩ := hSw; go_simp; (try with_reducible rfl))
                (try simp only [Act.put]); (try simp only [List.setIfInBounds_toArray]); (try simp only [List.set_cons_succ]); (try simp only [List.set_cons_zero])
                refine wpAnyH_take (i := 13) (oi := { dst := some 55, op := Op.move (Operand.tmp 10), type := 4, pos := "ref.go:257", after := #[{ on := 12, ground := Ground.guard }], guard := some (12, false) }) (v := ?v13u83) rfl (by kernel_rfl) (by kernel_rfl) (by kernel_rfl) (fun _ _ _ h => h) (Or.inl ⟨by rfl, ?y13u83⟩) (by assumption) ?r13u83
                case y13u83 => (intro w hSw; obtain ⟨-, s1, s2, s3, s4, s5, s6, s7, s8, s9, s10, s11, s12, s13, s14⟩ := hSw; go_simp; (try with_reducible rfl))
                (try simp only [Act.put]); (try simp only [List.setIfInBounds_toArray]); (try simp only [List.set_cons_succ]); (try simp only [List.set_cons_zero])
                refine wpAnyH_take (i := 14) (oi := { dst := some 56, op := Op.move (Operand.tmp 55), type := 4, pos := "ref.go:257", after := #[{ on := 13, ground := Ground.data }, { on := 12, ground := Ground.chain }, { on := 12, ground := Ground.guard }], guard := some (12, false) }) (v := ?v14u84) rfl (by kernel_rfl) (by kernel_rfl) (by kernel_rfl) (fun _ _ _ h => h) (Or.inl ⟨by rfl, ?y14u84⟩) (by assumption) ?r14u84
                case y14u84 => (intro w hSw; obtain ⟨-, s1, s2, s3, s4, s5, s6, s7, s8, s9, s10, s11, s12, s13, s14⟩ := hSw; go_simp; (try with_reducible rfl))
                (try simp only [Act.put]); (try simp only [List.setIfInBounds_toArray]); (try simp only [List.set_cons_succ]); (try simp only [List.set_cons_zero])
                refine wpAnyH_take (i := 15) (oi := { dst := some 57, op := Op.move (Operand.tmp 7), type := 52, pos := "ref.go:257", after := #[{ on := 14, ground := Ground.guard }], guard := some (14, true) }) (v := ?v15u85) rfl (by kernel_rfl) (by kernel_rfl) (by kernel_rfl) (fun _ _ _ h => h) (Or.inl ⟨by rfl, ?y15u85⟩) (by assumption) ?r15u85
                case y15u85 => (intro w hSw; obtain ⟨-, s1, s2, s3, s4, s5, s6, s7, s8, s9, s10, s11, s12, s13, s14⟩ := hSw; go_simp; (try with_reducible rfl))
                (try simp only [Act.put]); (try simp only [List.setIfInBounds_toArray]); (try simp only [List.set_cons_succ]); (try simp only [List.set_cons_zero])
                refine wpAnyH_take (i := 16) (oi := { dst := some 58, op := Op.move (Operand.tmp 9), type := 3, pos := "ref.go:257", after := #[{ on := 14, ground := Ground.guard }], guard := some (14, true) }) (v := ?v16u86) rfl (by kernel_rfl) (by kernel_rfl) (by kernel_rfl) (fun _ _ _ h => h) (Or.inl ⟨by rfl, ?y16u86⟩) (by assumption) ?r16u86
                case y16u86 => (intro w hSw; obtain ⟨-, s1, s2, s3, s4, s5, s6, s7, s8, s9, s10, s11, s12, s13, s14⟩ := hSw; go_simp; (try with_reducible rfl))
                (try simp only [Act.put]); (try simp only [List.setIfInBounds_toArray]); (try simp only [List.set_cons_succ]); (try simp only [List.set_cons_zero])
                refine wpAnyH_take (i := 17) (oi := { dst := some 59, op := Op.indexAddr 52 (Operand.tmp 57) (Operand.tmp 58), type := 0, pos := "ref.go:257", after := #[{ on := 15, ground := Ground.data }, { on := 16, ground := Ground.data }, { on := 14, ground := Ground.guard }], guard := some (14, true) }) (v := ?v17u87) rfl (by kernel_rfl) (by kernel_rfl) (by kernel_rfl) (fun _ _ _ h => h) (Or.inl ⟨by rfl, ?y17u87⟩) (by assumption) ?r17u87
                case y17u87 => (intro w hSw; obtain ⟨-, s1, s2, s3, s4, s5, s6, s7, s8, s9, s10, s11, s12, s13, s14⟩ := hSw; go_simp; (try with_reducible rfl))
                (try simp only [Act.put]); (try simp only [List.setIfInBounds_toArray]); (try simp only [List.set_cons_succ]); (try simp only [List.set_cons_zero])
                refine wpAnyH_take (i := 18) (oi := { dst := some 60, op := Op.fieldAddr 61 (Operand.tmp 59) 1, type := 0, pos := "ref.go:257", after := #[{ on := 17, ground := Ground.data }, { on := 14, ground := Ground.guard }], guard := some (14, true) }) (v := ?v18u88) rfl (by kernel_rfl) (by kernel_rfl) (by kernel_rfl) (fun _ _ _ h => h) (Or.inl ⟨by rfl, ?y18u88⟩) (by assumption) ?r18u88
                case y18u88 => (intro w hSw; obtain ⟨-, s1, s2, s3, s4, s5, s6, s7, s8, s9, s10, s11, s12, s13, s14⟩ := hSw; go_simp; (try with_reducible rfl))
                (try simp only [Act.put]); (try simp only [List.setIfInBounds_toArray]); (try simp only [List.set_cons_succ]); (try simp only [List.set_cons_zero])
                refine wpAnyH_take (i := 19) (oi := { dst := some 61, op := Op.fieldAddr 37 (Operand.tmp 60) 0, type := 0, pos := "ref.go:257", after := #[{ on := 18, ground := Ground.data }, { on := 14, ground := Ground.guard }], guard := some (14, true) }) (v := ?v19u89) rfl (by kernel_rfl) (by kernel_rfl) (by kernel_rfl) (fun _ _ _ h => h) (Or.inl ⟨by rfl, ?y19u89⟩) (by assumption) ?r19u89
                case y19u89 => (intro w hSw; obtain ⟨-, s1, s2, s3, s4, s5, s6, s7, s8, s9, s10, s11, s12, s13, s14⟩ := hSw; go_simp; (try with_reducible rfl))
                (try simp only [Act.put]); (try simp only [List.setIfInBounds_toArray]); (try simp only [List.set_cons_succ]); (try simp only [List.set_cons_zero])
                refine wpAnyH_take (i := 20) (oi := { dst := some 62, op := Op.load 9 (Operand.tmp 61), type := 9, pos := "ref.go:257", after := #[{ on := 19, ground := Ground.data }, { on := 14, ground := Ground.guard }], guard := some (14, true) }) (v := ?v20u90) rfl (by kernel_rfl) (by kernel_rfl) (by kernel_rfl) (fun _ _ _ h => h) (Or.inl ⟨by rfl, ?y20u90⟩) (by assumption) ?r20u90
                case y20u90 => (intro w hSw; obtain ⟨-, s1, s2, s3, s4, s5, s6, s7, s8, s9, s10, s11, s12, s13, s14⟩ := hSw; go_simp; (try with_reducible rfl))
                (try simp only [Act.put]); (try simp only [List.setIfInBounds_toArray]); (try simp only [List.set_cons_succ]); (try simp only [List.set_cons_zero])
                refine wpAnyH_take (i := 21) (oi := { dst := some 63, op := Op.move (Operand.tmp 8), type := 52, pos := "ref.go:257", after := #[{ on := 14, ground := Ground.guard }], guard := some (14, true) }) (v := ?v21u91) rfl (by kernel_rfl) (by kernel_rfl) (by kernel_rfl) (fun _ _ _ h => h) (Or.inl ⟨by rfl, ?y21u91⟩) (by assumption) ?r21u91
                case y21u91 => (intro w hSw; obtain ⟨-, s1, s2, s3, s4, s5, s6, s7, s8, s9, s10, s11, s12, s13, s14⟩ := hSw; go_simp; (try with_reducible rfl))
                (try simp only [Act.put]); (try simp only [List.setIfInBounds_toArray]); (try simp only [List.set_cons_succ]); (try simp only [List.set_cons_zero])
                refine wpAnyH_take (i := 22) (oi := { dst := some 64, op := Op.move (Operand.tmp 9), type := 3, pos := "ref.go:257", after := #[{ on := 14, ground := Ground.guard }], guard := some (14, true) }) (v := ?v22u92) rfl (by kernel_rfl) (by kernel_rfl) (by kernel_rfl) (fun _ _ _ h => h) (Or.inl ⟨by rfl, ?y22u92⟩) (by assumption) ?r22u92
                case y22u92 => (intro w hSw; obtain ⟨-, s1, s2, s3, s4, s5, s6, s7, s8, s9, s10, s11, s12, s13, s14⟩ := hSw; go_simp; (try with_reducible rfl))
                (try simp only [Act.put]); (try simp only [List.setIfInBounds_toArray]); (try simp only [List.set_cons_succ]); (try simp only [List.set_cons_zero])
                refine wpAnyH_take (i := 23) (oi := { dst := some 65, op := Op.indexAddr 52 (Operand.tmp 63) (Operand.tmp 64), type := 0, pos := "ref.go:257", after := #[{ on := 21, ground := Ground.data }, { on := 22, ground := Ground.data }, { on := 14, ground := Ground.guard }], guard := some (14, true) }) (v := ?v23u93) rfl (by kernel_rfl) (by kernel_rfl) (by kernel_rfl) (fun _ _ _ h => h) (Or.inl ⟨by rfl, ?y23u93⟩) (by assumption) ?r23u93
                case y23u93 => (intro w hSw; obtain ⟨-, s1, s2, s3, s4, s5, s6, s7, s8, s9, s10, s11, s12, s13, s14⟩ := hSw; go_simp; (try with_reducible rfl))
                (try simp only [Act.put]); (try simp only [List.setIfInBounds_toArray]); (try simp only [List.set_cons_succ]); (try simp only [List.set_cons_zero])
                refine wpAnyH_take (i := 24) (oi := { dst := some 66, op := Op.fieldAddr 61 (Operand.tmp 65) 1, type := 0, pos := "ref.go:257", after := #[{ on := 23, ground := Ground.data }, { on := 14, ground := Ground.guard }], guard := some (14, true) }) (v := ?v24u94) rfl (by kernel_rfl) (by kernel_rfl) (by kernel_rfl) (fun _ _ _ h => h) (Or.inl ⟨by rfl, ?y24u94⟩) (by assumption) ?r24u94
                case y24u94 => (intro w hSw; obtain ⟨-, s1, s2, s3, s4, s5, s6, s7, s8, s9, s10, s11, s12, s13, s14⟩ := hSw; go_simp; (try with_reducible rfl))
                (try simp only [Act.put]); (try simp only [List.setIfInBounds_toArray]); (try simp only [List.set_cons_succ]); (try simp only [List.set_cons_zero])
                refine wpAnyH_take (i := 25) (oi := { dst := some 67, op := Op.fieldAddr 37 (Operand.tmp 66) 0, type := 0, pos := "ref.go:257", after := #[{ on := 24, ground := Ground.data }, { on := 14, ground := Ground.guard }], guard := some (14, true) }) (v := ?v25u95) rfl (by kernel_rfl) (by kernel_rfl) (by kernel_rfl) (fun _ _ _ h => h) (Or.inl ⟨by rfl, ?y25u95⟩) (by assumption) ?r25u95
                case y25u95 => (intro w hSw; obtain ⟨-, s1, s2, s3, s4, s5, s6, s7, s8, s9, s10, s11, s12, s13, s14⟩ := hSw; go_simp; (try with_reducible rfl))
                (try simp only [Act.put]); (try simp only [List.setIfInBounds_toArray]); (try simp only [List.set_cons_succ]); (try simp only [List.set_cons_zero])
                refine wpAnyH_take (i := 26) (oi := { dst := some 68, op := Op.load 9 (Operand.tmp 67), type := 9, pos := "ref.go:257", after := #[{ on := 25, ground := Ground.data }, { on := 14, ground := Ground.guard }], guard := some (14, true) }) (v := ?v26u96) rfl (by kernel_rfl) (by kernel_rfl) (by kernel_rfl) (fun _ _ _ h => h) (Or.inl ⟨by rfl, ?y26u96⟩) (by assumption) ?r26u96
                case y26u96 => (intro w hSw; obtain ⟨-, s1, s2, s3, s4, s5, s6, s7, s8, s9, s10, s11, s12, s13, s14⟩ := hSw; go_simp; (try with_reducible rfl))
                (try simp only [Act.put]); (try simp only [List.setIfInBounds_toArray]); (try simp only [List.set_cons_succ]); (try simp only [List.set_cons_zero])
                cases hsq : (f.name.toList == q.name.toList) with
                | false =>
                  have HZ : Hid (ndEq false x y = false) := by show _ = _; rw [HD.out, hsq]; simp [h1]
                  have hsn : (f.name.toList != q.name.toList) = true := by simp [bne, hsq]
                  refine wpAnyH_take (i := 27) (oi := { dst := some 69, op := Op.binOp BinOp.neq 9 (Operand.tmp 62) (Operand.tmp 68) 9, type := 4, pos := "ref.go:257", after := #[{ on := 20, ground := Ground.data }, { on := 26, ground := Ground.data }, { on := 14, ground := Ground.guard }], guard := some (14, true) }) (v := ?v27u97) rfl (by kernel_rfl) (by kernel_rfl) (by kernel_rfl) (fun _ _ _ h => h) (Or.inl ⟨by rfl, ?y27u97⟩) (by assumption) ?r27u97
                  case y27u97 => (intro w hSw; obtain ⟨-, s1, s2, s3, s4, s5, s6, s7, s8, s9, s10, s11, s12, s13, s14⟩ := hSw; go_simp; (try with_reducible rfl))
                  (try simp only [Act.put]); (try simp only [List.setIfInBounds_toArray]); (try simp only [List.set_cons_succ]); (try simp only [List.set_cons_zero])
                  refine wpAnyH_take (i := 28) (oi := { dst := some 70, op := Op.pick (Operand.tmp 56) (Operand.tmp 69) (Operand.const (Value.bool false)), type := 4, pos := "ref.go:257", after := #[{ on := 14, ground := Ground.data }, { on := 27, ground := Ground.data }, { on := 12, ground := Ground.guard }], guard := some (12, false) }) (v := ?v28u98) rfl (by kernel_rfl) (by kernel_rfl) (by kernel_rfl) (fun _ _ _ h => h) (Or.inl ⟨by rfl, ?y28u98⟩) (by assumption) ?r28u98
                  case y28u98 => (intro w hSw; obtain ⟨-, s1, s2, s3, s4, s5, s6, s7, s8, s9, s10, s11, s12, s13, s14⟩ := hSw; go_simp; (try with_reducible rfl))
                  (try simp only [Act.put]); (try simp only [List.setIfInBounds_toArray]); (try simp only [List.set_cons_succ]); (try simp only [List.set_cons_zero])
                  refine wpAnyH_take (i := 29) (oi := { dst := some 71, op := Op.pick (Operand.tmp 54) (Operand.const (Value.bool true)) (Operand.tmp 70), type := 4, pos := "ref.go:257", after := #[{ on := 12, ground := Ground.data }, { on := 28, ground := Ground.data }], guard := none }) (v := ?v29u99) rfl (by kernel_rfl) (by kernel_rfl) (by kernel_rfl) (fun _ _ _ h => h) (Or.inl ⟨by rfl, ?y29u99⟩) (by assumption) ?r29u99
                  case y29u99 => (intro w hSw; obtain ⟨-, s1, s2, s3, s4, s5, s6, s7, s8, s9, s10, s11, s12, s13, s14⟩ := hSw; go_simp; (try with_reducible rfl))
                  (try simp only [Act.put]); (try simp only [List.setIfInBounds_toArray]); (try simp only [List.set_cons_succ]); (try simp only [List.set_cons_zero])
                  refine wpAnyH_done (by kernel_rfl) ?_ _
                  have HB := hidM hHeld.1.out.gr
                  clear hHeld hk1 HIN
                  go_wp2
                  go_ret
                  exact ⟨by rw [HRf.out HZ.out]; rfl, HG2.out.trans HB.out (fun _ _ h => h)⟩
                | true =>
                  have HZ : Hid (ndEq false x y = true) := by show _ = _; rw [HD.out, hsq]; simp
                  have hsn : (f.name.toList != q.name.toList) = false := by simp [bne, hsq]
                  refine wpAnyH_take (i := 27) (oi := { dst := some 69, op := Op.binOp BinOp.neq 9 (Operand.tmp 62) (Operand.tmp 68) 9, type := 4, pos := "ref.go:257", after := #[{ on := 20, ground := Ground.data }, { on := 26, ground := Ground.data }, { on := 14, ground := Ground.guard }], guard := some (14, true) }) (v := ?v27u100) rfl (by kernel_rfl) (by kernel_rfl) (by kernel_rfl) (fun _ _ _ h => h) (Or.inl ⟨by rfl, ?y27u100⟩) (by assumption) ?r27u100
                  case y27u100 => (intro w hSw; obtain ⟨-, s1, s2, s3, s4, s5, s6, s7, s8, s9, s10, s11, s12, s13, s14⟩ := hSw; go_simp; (try with_reducible rfl))
                  (try simp only [Act.put]); (try simp only [List.setIfInBounds_toArray]); (try simp only [List.set_cons_succ]); (try simp only [List.set_cons_zero])
                  refine wpAnyH_take (i := 28) (oi := { dst := some 70, op := Op.pick (Operand.tmp 56) (Operand.tmp 69) (Operand.const (Value.bool false)), type := 4, pos := "ref.go:257", after := #[{ on := 14, ground := Ground.data }, { on := 27, ground := Ground.data }, { on := 12, ground := Ground.guard }], guard := some (12, false) }) (v := ?v28u101) rfl (by kernel_rfl) (by kernel_rfl) (by kernel_rfl) (fun _ _ _ h => h) (Or.inl ⟨by rfl, ?y28u101⟩) (by assumption) ?r28u101
                  case y28u101 => (intro w hSw; obtain ⟨-, s1, s2, s3, s4, s5, s6, s7, s8, s9, s10, s11, s12, s13, s14⟩ := hSw; go_simp; (try with_reducible rfl))
                  (try simp only [Act.put]); (try simp only [List.setIfInBounds_toArray]); (try simp only [List.set_cons_succ]); (try simp only [List.set_cons_zero])
                  refine wpAnyH_take (i := 29) (oi := { dst := some 71, op := Op.pick (Operand.tmp 54) (Operand.const (Value.bool true)) (Operand.tmp 70), type := 4, pos := "ref.go:257", after := #[{ on := 12, ground := Ground.data }, { on := 28, ground := Ground.data }], guard := none }) (v := ?v29u102) rfl (by kernel_rfl) (by kernel_rfl) (by kernel_rfl) (fun _ _ _ h => h) (Or.inl ⟨by rfl, ?y29u102⟩) (by assumption) ?r29u102
                  case y29u102 => (intro w hSw; obtain ⟨-, s1, s2, s3, s4, s5, s6, s7, s8, s9, s10, s11, s12, s13, s14⟩ := hSw; go_simp; (try with_reducible rfl))
                  (try simp only [Act.put]); (try simp only [List.setIfInBounds_toArray]); (try simp only [List.set_cons_succ]); (try simp only [List.set_cons_zero])
                  refine wpAnyH_done (by kernel_rfl) ?_ _
                  have HB := hidM hHeld.1.out.gr
                  clear hHeld hk1 HIN
                  go_wp2
                  go_roundw
                  case rel =>
                    refine ⟨k + 1, by omega, by simp, HB.out, fun i hi hi' h => ?_⟩
                    by_cases e : i = k
                    · subst e; rw [← HX.out, ← HY.out]; exact HZ.out
                    · exact HP.out i hi hi' (by omega)
                  case measure => simp [intOf]; omega
            · have h1' : ¬ (1 : Int) < (P : Int) := by omega
              go_wp2
              clear c0
              refine wp_region_held_drew (S := fun w' => Hid (TwoN w2 w' g h k f q fo eo fc ec) ∧ w'.cell? ⟨g, k * 10 + 1, none⟩ = some (.string f.name) ∧ w'.cell? ⟨g, k * 10 + 2, none⟩ = some (.bool f.nul) ∧ w'.cell? ⟨g, k * 10 + 3, none⟩ = some (.int .i64 f.kind) ∧ w'.cell? ⟨g, k * 10 + 4, none⟩ = some (.int .i64 f.width) ∧ w'.cell? ⟨g, k * 10 + 5, none⟩ = some (.int .i64 f.id) ∧ w'.cell? ⟨g, k * 10 + 6, none⟩ = some (.int .i64 f.index) ∧ w'.cell? ⟨g, k * 10 + 7, none⟩ = some (.slice fo f.kids.length fc) ∧ w'.cell? ⟨h, k * 10 + 1, none⟩ = some (.string q.name) ∧ w'.cell? ⟨h, k * 10 + 2, none⟩ = some (.bool q.nul) ∧ w'.cell? ⟨h, k * 10 + 3, none⟩ = some (.int .i64 q.kind) ∧ w'.cell? ⟨h, k * 10 + 4, none⟩ = some (.int .i64 q.width) ∧ w'.cell? ⟨h, k * 10 + 5, none⟩ = some (.int .i64 q.id) ∧ w'.cell? ⟨h, k * 10 + 6, none⟩ = some (.int .i64 q.index) ∧ w'.cell? ⟨h, k * 10 + 7, none⟩ = some (.slice eo q.kids.length ec)) (by kernel_rfl) HIN.out (fun hHeld => ?_)
              refine wpAnyH_take (i := 0) (oi := { dst := some 42, op := Op.move (Operand.tmp 7), type := 52, pos := "ref.go:257", after := #[], guard := none }) (v := ?v0u103) rfl (by kernel_rfl) (by kernel_rfl) (by kernel_rfl) (fun _ _ _ h => h) (Or.inl ⟨by rfl, ?y0u103⟩) (by assumption) ?r0u103
              case y0u103 => (intro w hSw; obtain ⟨-, s1, s2, s3, s4, s5, s6, s7, s8, s9, s10, s11, s12, s13, s14⟩ := hSw; go_simp; (try with_reducible rfl))
              (try simp only [Act.put]); (try simp only [List.setIfInBounds_toArray]); (try simp only [List.set_cons_succ]); (try simp only [List.set_cons_zero])
              refine wpAnyH_take (i := 1) (oi := { dst := some 43, op := Op.move (Operand.tmp 9), type := 3, pos := "ref.go:257", after := #[], guard := none }) (v := ?v1u104) rfl (by kernel_rfl) (by kernel_rfl) (by kernel_rfl) (fun _ _ _ h => h) (Or.inl ⟨by rfl, ?y1u104⟩) (by assumption) ?r1u104
              case y1u104 => (intro w hSw; obtain ⟨-, s1, s2, s3, s4, s5, s6, s7, s8, s9, s10, s11, s12, s13, s14⟩ := hSw; go_simp; (try with_reducible rfl))
              (try simp only [Act.put]); (try simp only [List.setIfInBounds_toArray]); (try simp only [List.set_cons_succ]); (try simp only [List.set_cons_zero])
              refine wpAnyH_take (i := 2) (oi := { dst := some 44, op := Op.indexAddr 52 (Operand.tmp 42) (Operand.tmp 43), type := 0, pos := "ref.go:257", after := #[{ on := 0, ground := Ground.data }, { on := 1, ground := Ground.data }], guard := none }) (v := ?v2u105) rfl (by kernel_rfl) (by kernel_rfl) (by kernel_rfl) (fun _ _ _ h => h) (Or.inl ⟨by rfl, ?y2u105⟩) (by assumption) ?r2u105
              case y2u105 => (intro w hSw; obtain ⟨-, s1, s2, s3, s4, s5, s6, s7, s8, s9, s10, s11, s12, s13, s14⟩ := hSw; go_simp; (try with_reducible rfl))
              (try simp only [Act.put]); (try simp only [List.setIfInBounds_toArray]); (try simp only [List.set_cons_succ]); (try simp only [List.set_cons_zero])
              refine wpAnyH_take (i := 3) (oi := { dst := some 45, op := Op.fieldAddr 61 (Operand.tmp 44) 1, type := 0, pos := "ref.go:257", after := #[{ on := 2, ground := Ground.data }], guard := none }) (v := ?v3u106) rfl (by kernel_rfl) (by kernel_rfl) (by kernel_rfl) (fun _ _ _ h => h) (Or.inl ⟨by rfl, ?y3u106⟩) (by assumption) ?r3u106
              case y3u106 => (intro w hSw; obtain ⟨-, s1, s2, s3, s4, s5, s6, s7, s8, s9, s10, s11, s12, s13, s14⟩ := hSw; go_simp; (try with_reducible rfl))
              (try simp only [Act.put]); (try simp only [List.setIfInBounds_toArray]); (try simp only [List.set_cons_succ]); (try simp only [List.set_cons_zero])
              refine wpAnyH_take (i := 4) (oi := { dst := some 46, op := Op.load 37 (Operand.tmp 45), type := 37, pos := "ref.go:257", after := #[{ on := 3, ground := Ground.data }], guard := none }) (v := ?v4u107) rfl (by kernel_rfl) (by kernel_rfl) (by kernel_rfl) (fun _ _ _ h => h) (Or.inl ⟨by rfl, ?y4u107⟩) (by assumption) ?r4u107
              case y4u107 => (intro w hSw; obtain ⟨-, s1, s2, s3, s4, s5, s6, s7, s8, s9, s10, s11, s12, s13, s14⟩ := hSw; go_simp; (try with_reducible rfl))
              (try simp only [Act.put]); (try simp only [List.setIfInBounds_toArray]); (try simp only [List.set_cons_succ]); (try simp only [List.set_cons_zero])
              refine wpAnyH_take (i := 5) (oi := { dst := some 47, op := Op.move (Operand.tmp 8), type := 52, pos := "ref.go:257", after := #[], guard := none }) (v := ?v5u108) rfl (by kernel_rfl) (by kernel_rfl) (by kernel_rfl) (fun _ _ _ h => h) (Or.inl ⟨by rfl, ?y5u108⟩) (by assumption) ?r5u108
              case y5u108 => (intro w hSw; obtain ⟨-, s1, s2, s3, s4, s5, s6, s7, s8, s9, s10, s11, s12, s13, s14⟩ := hSw; go_simp; (try with_reducible rfl))
              (try simp only [Act.put]); (try simp only [List.setIfInBounds_toArray]); (try simp only [List.set_cons_succ]); (try simp only [List.set_cons_zero])
              refine wpAnyH_take (i := 6) (oi := { dst := some 48, op := Op.move (Operand.tmp 9), type := 3, pos := "ref.go:257", after := #[], guard := none }) (v := ?v6u109) rfl (by kernel_rfl) (by kernel_rfl) (by kernel_rfl) (fun _ _ _ h => h) (Or.inl ⟨by rfl, ?y6u109⟩) (by assumption) ?r6u109
              case y6u109 => (intro w hSw; obtain ⟨-, s1, s2, s3, s4, s5, s6, s7, s8, s9, s10, s11, s12, s13, s14⟩ := hSw; go_simp; (try with_reducible rfl))
              (try simp only [Act.put]); (try simp only [List.setIfInBounds_toArray]); (try simp only [List.set_cons_succ]); (try simp only [List.set_cons_zero])
              refine wpAnyH_take (i := 7) (oi := { dst := some 49, op := Op.indexAddr 52 (Operand.tmp 47) (Operand.tmp 48), type := 0, pos := "ref.go:257", after := #[{ on := 5, ground := Ground.data }, { on := 6, ground := Ground.data }], guard := none }) (v := ?v7u110) rfl (by kernel_rfl) (by kernel_rfl) (by kernel_rfl) (fun _ _ _ h => h) (Or.inl ⟨by rfl, ?y7u110⟩) (by assumption) ?r7u110
              case y7u110 => (intro w hSw; obtain ⟨-, s1, s2, s3, s4, s5, s6, s7, s8, s9, s10, s11, s12, s13, s14⟩ := hSw; go_simp; (try with_reducible rfl))
              (try simp only [Act.put]); (try simp only [List.setIfInBounds_toArray]); (try simp only [List.set_cons_succ]); (try simp only [List.set_cons_zero])
              refine wpAnyH_take (i := 8) (oi := { dst := some 50, op := Op.fieldAddr 61 (Operand.tmp 49) 1, type := 0, pos := "ref.go:257", after := #[{ on := 7, ground := Ground.data }], guard := none }) (v := ?v8u111) rfl (by kernel_rfl) (by kernel_rfl) (by kernel_rfl) (fun _ _ _ h => h) (Or.inl ⟨by rfl, ?y8u111⟩) (by assumption) ?r8u111
              case y8u111 => (intro w hSw; obtain ⟨-, s1, s2, s3, s4, s5, s6, s7, s8, s9, s10, s11, s12, s13, s14⟩ := hSw; go_simp; (try with_reducible rfl))
              (try simp only [Act.put]); (try simp only [List.setIfInBounds_toArray]); (try simp only [List.set_cons_succ]); (try simp only [List.set_cons_zero])
              refine wpAnyH_take (i := 9) (oi := { dst := some 51, op := Op.load 37 (Operand.tmp 50), type := 37, pos := "ref.go:257", after := #[{ on := 8, ground := Ground.data }], guard := none }) (v := ?v9u112) rfl (by kernel_rfl) (by kernel_rfl) (by kernel_rfl) (fun _ _ _ h => h) (Or.inl ⟨by rfl, ?y9u112⟩) (by assumption) ?r9u112
              case y9u112 => (intro w hSw; obtain ⟨-, s1, s2, s3, s4, s5, s6, s7, s8, s9, s10, s11, s12, s13, s14⟩ := hSw; go_simp; (try with_reducible rfl))
              (try simp only [Act.put]); (try simp only [List.setIfInBounds_toArray]); (try simp only [List.set_cons_succ]); (try simp only [List.set_cons_zero])
              refine wpAnyH_ready (rs := [10]) (by kernel_rfl) (by simp) ?_
              refine AllReadyH.cons (o := { dst := some 52, op := Op.call { callee := Callee.value (Operand.func 78), args := #[Operand.tmp 46, Operand.tmp 51], argTypes := #[37, 37] }, type := 4, pos := "ref.go:257", after := #[{ on := 4, ground := Ground.data }, { on := 9, ground := Ground.data }], guard := none }) rfl (fun K hK => ?_) AllReadyH.nil
              go_simp
              go_at_call 78
              refine Calls.mono (C78.out _) ?_
              rintro e' v1 ⟨rfl, hk1⟩
              replace hk1 := hidM hk1
              go_wp2_with fail
              refine hK.out _ _ (twoN_kept hHeld hk1) (fun hHeld => ?_)
              clear hK K
              (try simp only [Act.put]); (try simp only [List.setIfInBounds_toArray]); (try simp only [List.set_cons_succ]); (try simp only [List.set_cons_zero])
              cases r with
              | false =>
                have HZ : Hid (ndEq false x y = false) := by show _ = _; rw [HD.out]; rfl
                refine wpAnyH_take (i := 11) (oi := { dst := some 53, op := Op.unOp UnOp.not 4 (Operand.tmp 52), type := 4, pos := "ref.go:257", after := #[{ on := 10, ground := Ground.data }], guard := none }) (v := ?v11u113) rfl (by kernel_rfl) (by kernel_rfl) (by kernel_rfl) (fun _ _ _ h => h) (Or.inl ⟨by rfl, ?y11u113⟩) (by assumption) ?r11u113
                case y11u113 => (intro w hSw; obtain ⟨-, s1, s2, s3, s4, s5, s6, s7, s8, s9, s10, s11, s12, s13, s14⟩ := hSw; go_simp; (try with_reducible rfl))
                (try simp only [Act.put]); (try simp only [List.setIfInBounds_toArray]); (try simp only [List.set_cons_succ]); (try simp only [List.set_cons_zero])
                refine wpAnyH_take (i := 12) (oi := { dst := some 54, op := Op.move (Operand.tmp 53), type := 4, pos := "ref.go:257", after := #[{ on := 11, ground := Ground.data }, { on := 10, ground := Ground.chain }], guard := none }) (v := ?v12u114) rfl (by kernel_rfl) (by kernel_rfl) (by kernel_rfl) (fun _ _ _ h => h) (Or.inl ⟨by rfl, ?y12u114⟩) (by assumption) ?r12u114
                case y12u114 => (intro w hSw; obtain ⟨-, s1, s2, s3, s4, s5, s6, s7, s8, s9, s10, s11, s12, s13, s14⟩ := hSw; go_simp; (try with_reducible rfl))
                (try simp only [Act.put]); (try simp only [List.setIfInBounds_toArray]); (try simp only [List.set_cons_succ]); (try simp only [List.set_cons_zero])
                refine wpAnyH_take (i := 13) (oi := { dst := some 55, op := Op.move (Operand.tmp 10), type := 4, pos := "ref.go:257", after := #[{ on := 12, ground := Ground.guard }], guard := some (12, false) }) (v := undef) rfl (by kernel_rfl) (by kernel_rfl) (by kernel_rfl) (fun _ _ _ h => h) (Or.inr ⟨by kernel_rfl, rfl⟩) (by assumption) ?r13u115
                (try simp only [Act.put]); (try simp only [List.setIfInBounds_toArray]); (try simp only [List.set_cons_succ]); (try simp only [List.set_cons_zero])
                refine wpAnyH_take (i := 14) (oi := { dst := some 56, op := Op.move (Operand.tmp 55), type := 4, pos := "ref.go:257", after := #[{ on := 13, ground := Ground.data }, { on := 12, ground := Ground.chain }, { on := 12, ground := Ground.guard }], guard := some (12, false) }) (v := undef) rfl (by kernel_rfl) (by kernel_rfl) (by kernel_rfl) (fun _ _ _ h => h) (Or.inr ⟨by kernel_rfl, rfl⟩) (by assumption) ?r14u116
                (try simp only [Act.put]); (try simp only [List.setIfInBounds_toArray]); (try simp only [List.set_cons_succ]); (try simp only [List.set_cons_zero])
                refine wpAnyH_take (i := 15) (oi := { dst := some 57, op := Op.move (Operand.tmp 7), type := 52, pos := "ref.go:257", after := #[{ on := 14, ground := Ground.guard }], guard := some (14, true) }) (v := undef) rfl (by kernel_rfl) (by kernel_rfl) (by kernel_rfl) (fun _ _ _ h => h) (Or.inr ⟨by kernel_rfl, rfl⟩) (by assumption) ?r15u117
                (try simp only [Act.put]); (try simp only [List.setIfInBounds_toArray]); (try simp only [List.set_cons_succ]); (try simp only [List.set_cons_zero])
                refine wpAnyH_take (i := 16) (oi := { dst := some 58, op := Op.move (Operand.tmp 9), type := 3, pos := "ref.go:257", after := #[{ on := 14, ground := Ground.guard }], guard := some (14, true) }) (v := undef) rfl (by kernel_rfl) (by kernel_rfl) (by kernel_rfl) (fun _ _ _ h => h) (Or.inr ⟨by kernel_rfl, rfl⟩) (by assumption) ?r16u118
                (try simp only [Act.put]); (try simp only [List.setIfInBounds_toArray]); (try simp only [List.set_cons_succ]); (try simp only [List.set_cons_zero])
                refine wpAnyH_take (i := 17) (oi := { dst := some 59, op := Op.indexAddr 52 (Operand.tmp 57) (Operand.tmp 58), type := 0, pos := "ref.go:257", after := #[{ on := 15, ground := Ground.data }, { on := 16, ground := Ground.data }, { on := 14, ground := Ground.guard }], guard := some (14, true) }) (v := undef) rfl (by kernel_rfl) (by kernel_rfl) (by kernel_rfl) (fun _ _ _ h => h) (Or.inr ⟨by kernel_rfl, rfl⟩) (by assumption) ?r17u119
                (try simp only [Act.put]); (try simp only [List.setIfInBounds_toArray]); (try simp only [List.set_cons_succ]); (try simp only [List.set_cons_zero])
                refine wpAnyH_take (i := 18) (oi := { dst := some 60, op := Op.fieldAddr 61 (Operand.tmp 59) 1, type := 0, pos := "ref.go:257", after := #[{ on := 17, ground := Ground.data }, { on := 14, ground := Ground.guard }], guard := some (14, true) }) (v := undef) rfl (by kernel_rfl) (by kernel_rfl) (by kernel_rfl) (fun _ _ _ h => h) (Or.inr ⟨by kernel_rfl, rfl⟩) (by assumption) ?r18u120
                (try simp only [Act.put]); (try simp only [List.setIfInBounds_toArray]); (try simp only [List.set_cons_succ]); (try simp only [List.set_cons_zero])
                refine wpAnyH_take (i := 19) (oi := { dst := some 61, op := Op.fieldAddr 37 (Operand.tmp 60) 0, type := 0, pos := "ref.go:257", after := #[{ on := 18, ground := Ground.data }, { on := 14, ground := Ground.guard }], guard := some (14, true) }) (v := undef) rfl (by kernel_rfl) (by kernel_rfl) (by kernel_rfl) (fun _ _ _ h => h) (Or.inr ⟨by kernel_rfl, rfl⟩) (by assumption) ?r19u121
                (try simp only [Act.put]); (try simp only [List.setIfInBounds_toArray]); (try simp only [List.set_cons_succ]); (try simp only [List.set_cons_zero])
                refine wpAnyH_take (i := 20) (oi := { dst := some 62, op := Op.load 9 (Operand.tmp 61), type := 9, pos := "ref.go:257", after := #[{ on := 19, ground := Ground.data }, { on := 14, ground := Ground.guard }], guard := some (14, true) }) (v := undef) rfl (by kernel_rfl) (by kernel_rfl) (by kernel_rfl) (fun _ _ _ h => h) (Or.inr ⟨by kernel_rfl, rfl⟩) (by assumption) ?r20u122
                (try simp only [Act.put]); (try simp only [List.setIfInBounds_toArray]); (try simp only [List.set_cons_succ]); (try simp only [List.set_cons_zero])
                refine wpAnyH_take (i := 21) (oi := { dst := some 63, op := Op.move (Operand.tmp 8), type := 52, pos := "ref.go:257", after := #[{ on := 14, ground := Ground.guard }], guard := some (14, true) }) (v := undef) rfl (by kernel_rfl) (by kernel_rfl) (by kernel_rfl) (fun _ _ _ h => h) (Or.inr ⟨by kernel_rfl, rfl⟩) (by assumption) ?r21u123
                (try simp only [Act.put]); (try simp only [List.setIfInBounds_toArray]); (try simp only [List.set_cons_succ]); (try simp only [List.set_cons_zero])
                refine wpAnyH_take (i := 22) (oi := { dst := some 64, op := Op.move (Operand.tmp 9), type := 3, pos := "ref.go:257", after := #[{ on := 14, ground := Ground.guard }], guard := some (14, true) }) (v := undef) rfl (by kernel_rfl) (by kernel_rfl) (by kernel_rfl) (fun _ _ _ h => h) (Or.inr ⟨by kernel_rfl, rfl⟩) (by assumption) ?r22u124
                (try simp only [Act.put]); (try simp only [List.setIfInBounds_toArray]); (try simp only [List.set_cons_succ]); (try simp only [List.set_cons_zero])
                refine wpAnyH_take (i := 23) (oi := { dst := some 65, op := Op.indexAddr 52 (Operand.tmp 63) (Operand.tmp 64), type := 0, pos := "ref.go:257", after := #[{ on := 21, ground := Ground.data }, { on := 22, ground := Ground.data }, { on := 14, ground := Ground.guard }], guard := some (14, true) }) (v := undef) rfl (by kernel_rfl) (by kernel_rfl) (by kernel_rfl) (fun _ _ _ h => h) (Or.inr ⟨by kernel_rfl, rfl⟩) (by assumption) ?r23u125
                (try simp only [Act.put]); (try simp only [List.setIfInBounds_toArray]); (try simp only [List.set_cons_succ]); (try simp only [List.set_cons_zero])
                refine wpAnyH_take (i := 24) (oi := { dst := some 66, op := Op.fieldAddr 61 (Operand.tmp 65) 1, type := 0, pos := "ref.go:257", after := #[{ on := 23, ground := Ground.data }, { on := 14, ground := Ground.guard }], guard := some (14, true) }) (v := undef) rfl (by kernel_rfl) (by kernel_rfl) (by kernel_rfl) (fun _ _ _ h => h) (Or.inr ⟨by kernel_rfl, rfl⟩) (by assumption) ?r24u126
                (try simp only [Act.put]); (try simp only [List.setIfInBounds_toArray]); (try simp only [List.set_cons_succ]); (try simp only [List.set_cons_zero])
                refine wpAnyH_take (i := 25) (oi := { dst := some 67, op := Op.fieldAddr 37 (Operand.tmp 66) 0, type := 0, pos := "ref.go:257", after := #[{ on := 24, ground := Ground.data }, { on := 14, ground := Ground.guard }], guard := some (14, true) }) (v := undef) rfl (by kernel_rfl) (by kernel_rfl) (by kernel_rfl) (fun _ _ _ h => h) (Or.inr ⟨by kernel_rfl, rfl⟩) (by assumption) ?r25u127
                (try simp only [Act.put]); (try simp only [List.setIfInBounds_toArray]); (try simp only [List.set_cons_succ]); (try simp only [List.set_cons_zero])
                refine wpAnyH_take (i := 26) (oi := { dst := some 68, op := Op.load 9 (Operand.tmp 67), type := 9, pos := "ref.go:257", after := #[{ on := 25, ground := Ground.data }, { on := 14, ground := Ground.guard }], guard := some (14, true) }) (v := undef) rfl (by kernel_rfl) (by kernel_rfl) (by kernel_rfl) (fun _ _ _ h => h) (Or.inr ⟨by kernel_rfl, rfl⟩) (by assumption) ?r26u128
                (try simp only [Act.put]); (try simp only [List.setIfInBounds_toArray]); (try simp only [List.set_cons_succ]); (try simp only [List.set_cons_zero])
                refine wpAnyH_take (i := 27) (oi := { dst := some 69, op := Op.binOp BinOp.neq 9 (Operand.tmp 62) (Operand.tmp 68) 9, type := 4, pos := "ref.go:257", after := #[{ on := 20, ground := Ground.data }, { on := 26, ground := Ground.data }, { on := 14, ground := Ground.guard }], guard := some (14, true) }) (v := undef) rfl (by kernel_rfl) (by kernel_rfl) (by kernel_rfl) (fun _ _ _ h => h) (Or.inr ⟨by kernel_rfl, rfl⟩) (by assumption) ?r27u129
                (try simp only [Act.put]); (try simp only [List.setIfInBounds_toArray]); (try simp only [List.set_cons_succ]); (try simp only [List.set_cons_zero])
                refine wpAnyH_take (i := 28) (oi := { dst := some 70, op := Op.pick (Operand.tmp 56) (Operand.tmp 69) (Operand.const (Value.bool false)), type := 4, pos := "ref.go:257", after := #[{ on := 14, ground := Ground.data }, { on := 27, ground := Ground.data }, { on := 12, ground := Ground.guard }], guard := some (12, false) }) (v := undef) rfl (by kernel_rfl) (by kernel_rfl) (by kernel_rfl) (fun _ _ _ h => h) (Or.inr ⟨by kernel_rfl, rfl⟩) (by assumption) ?r28u130
                (try simp only [Act.put]); (try simp only [List.setIfInBounds_toArray]); (try simp only [List.set_cons_succ]); (try simp only [List.set_cons_zero])
                refine wpAnyH_take (i := 29) (oi := { dst := some 71, op := Op.pick (Operand.tmp 54) (Operand.const (Value.bool true)) (Operand.tmp 70), type := 4, pos := "ref.go:257", after := #[{ on := 12, ground := Ground.data }, { on := 28, ground := Ground.data }], guard := none }) (v := ?v29u131) rfl (by kernel_rfl) (by kernel_rfl) (by kernel_rfl) (fun _ _ _ h => h) (Or.inl ⟨by rfl, ?y29u131⟩) (by assumption) ?r29u131
                case y29u131 => (intro w hSw; obtain ⟨-, s1, s2, s3, s4, s5, s6, s7, s8, s9, s10, s11, s12, s13, s14⟩ := hSw; go_simp; (try with_reducible rfl))
                (try simp only [Act.put]); (try simp only [List.setIfInBounds_toArray]); (try simp only [List.set_cons_succ]); (try simp only [List.set_cons_zero])
                refine wpAnyH_done (by kernel_rfl) ?_ _
                have HB := hidM hHeld.1.out.gr
                clear hHeld hk1 HIN
                go_wp2
                go_ret
                exact ⟨by rw [HRf.out HZ.out]; rfl, HG2.out.trans HB.out (fun _ _ h => h)⟩
              | true =>
                refine wpAnyH_take (i := 11) (oi := { dst := some 53, op := Op.unOp UnOp.not 4 (Operand.tmp 52), type := 4, pos := "ref.go:257", after := #[{ on := 10, ground := Ground.data }], guard := none }) (v := ?v11u132) rfl (by kernel_rfl) (by kernel_rfl) (by kernel_rfl) (fun _ _ _ h => h) (Or.inl ⟨by rfl, ?y11u132⟩) (by assumption) ?r11u132
                case y11u132 => (intro w hSw; obtain ⟨-, s1, s2, s3, s4, s5, s6, s7, s8, s9, s10, s11, s12, s13, s14⟩ := hSw; go_simp; (try with_reducible rfl))
                (try simp only [Act.put]); (try simp only [List.setIfInBounds_toArray]); (try simp only [List.set_cons_succ]); (try simp only [List.set_cons_zero])
                refine wpAnyH_take (i := 12) (oi := { dst := some 54, op := Op.move (Operand.tmp 53), type := 4, pos := "ref.go:257", after := #[{ on := 11, ground := Ground.data }, { on := 10, ground := Ground.chain }], guard := none }) (v := ?v12u133) rfl (by kernel_rfl) (by kernel_rfl) (by kernel_rfl) (fun _ _ _ h => h) (Or.inl ⟨by rfl, ?y12u133⟩) (by assumption) ?r12u133
                case y12u133 => (intro w hSw; obtain ⟨-, s1, s2, s3, s4, s5, s6, s7, s8, s9, s10, s11, s12, s13, s14⟩ := hSw; go_simp; (try with_reducible rfl))
                (try simp only [Act.put]); (try simp only [List.setIfInBounds_toArray]); (try simp only [List.set_cons_succ]); (try simp only [List.set_cons_zero])
                refine wpAnyH_take (i := 13) (oi := { dst := some 55, op := Op.move (Operand.tmp 10), type := 4, pos := "ref.go:257", after := #[{ on := 12, ground := Ground.guard }], guard := some (12, false) }) (v := ?v13u134) rfl (by kernel_rfl) (by kernel_rfl) (by kernel_rfl) (fun _ _ _ h => h) (Or.inl ⟨by rfl, ?y13u134⟩) (by assumption) ?r13u134
                case y13u134 => (intro w hSw; obtain ⟨-, s1, s2, s3, s4, s5, s6, s7, s8, s9, s10, s11, s12, s13, s14⟩ := hSw; go_simp; (try with_reducible rfl))
                (try simp only [Act.put]); (try simp only [List.setIfInBounds_toArray]); (try simp only [List.set_cons_succ]); (try simp only [List.set_cons_zero])
                refine wpAnyH_take (i := 14) (oi := { dst := some 56, op := Op.move (Operand.tmp 55), type := 4, pos := "ref.go:257", after := #[{ on := 13, ground := Ground.data }, { on := 12, ground := Ground.chain }, { on := 12, ground := Ground.guard }], guard := some (12, false) }) (v := ?v14u135) rfl (by kernel_rfl) (by kernel_rfl) (by kernel_rfl) (fun _ _ _ h => h) (Or.inl ⟨by rfl, ?y14u135⟩) (by assumption) ?r14u135
                case y14u135 => (intro w hSw; obtain ⟨-, s1, s2, s3, s4, s5, s6, s7, s8, s9, s10, s11, s12, s13, s14⟩ := hSw; go_simp; (try with_reducible rfl))
                (try simp only [Act.put]); (try simp only [List.setIfInBounds_toArray]); (try simp only [List.set_cons_succ]); (try simp only [List.set_cons_zero])
                have HZ : Hid (ndEq false x y = true) := by show _ = _; rw [HD.out]; simp [h1]
                refine wpAnyH_take (i := 15) (oi := { dst := some 57, op := Op.move (Operand.tmp 7), type := 52, pos := "ref.go:257", after := #[{ on := 14, ground := Ground.guard }], guard := some (14, true) }) (v := undef) rfl (by kernel_rfl) (by kernel_rfl) (by kernel_rfl) (fun _ _ _ h => h) (Or.inr ⟨by kernel_rfl, rfl⟩) (by assumption) ?r15u136
                (try simp only [Act.put]); (try simp only [List.setIfInBounds_toArray]); (try simp only [List.set_cons_succ]); (try simp only [List.set_cons_zero])
                refine wpAnyH_take (i := 16) (oi := { dst := some 58, op := Op.move (Operand.tmp 9), type := 3, pos := "ref.go:257", after := #[{ on := 14, ground := Ground.guard }], guard := some (14, true) }) (v := undef) rfl (by kernel_rfl) (by kernel_rfl) (by kernel_rfl) (fun _ _ _ h => h) (Or.inr ⟨by kernel_rfl, rfl⟩) (by assumption) ?r16u137
                (try simp only [Act.put]); (try simp only [List.setIfInBounds_toArray]); (try simp only [List.set_cons_succ]); (try simp only [List.set_cons_zero])
                refine wpAnyH_take (i := 17) (oi := { dst := some 59, op := Op.indexAddr 52 (Operand.tmp 57) (Operand.tmp 58), type := 0, pos := "ref.go:257", after := #[{ on := 15, ground := Ground.data }, { on := 16, ground := Ground.data }, { on := 14, ground := Ground.guard }], guard := some (14, true) }) (v := undef) rfl (by kernel_rfl) (by kernel_rfl) (by kernel_rfl) (fun _ _ _ h => h) (Or.inr ⟨by kernel_rfl, rfl⟩) (by assumption) ?r17u138
                (try simp only [Act.put]); (try simp only [List.setIfInBounds_toArray]); (try simp only [List.set_cons_succ]); (try simp only [List.set_cons_zero])
                refine wpAnyH_take (i := 18) (oi := { dst := some 60, op := Op.fieldAddr 61 (Operand.tmp 59) 1, type := 0, pos := "ref.go:257", after := #[{ on := 17, ground := Ground.data }, { on := 14, ground := Ground.guard }], guard := some (14, true) }) (v := undef) rfl (by kernel_rfl) (by kernel_rfl) (by kernel_rfl) (fun _ _ _ h => h) (Or.inr ⟨by kernel_rfl, rfl⟩) (by assumption) ?r18u139
                (try simp only [Act.put]); (try simp only [List.setIfInBounds_toArray]); (try simp only [List.set_cons_succ]); (try simp only [List.set_cons_zero])
                refine wpAnyH_take (i := 19) (oi := { dst := some 61, op := Op.fieldAddr 37 (Operand.tmp 60) 0, type := 0, pos := "ref.go:257", after := #[{ on := 18, ground := Ground.data }, { on := 14, ground := Ground.guard }], guard := some (14, true) }) (v := undef) rfl (by kernel_rfl) (by kernel_rfl) (by kernel_rfl) (fun _ _ _ h => h) (Or.inr ⟨by kernel_rfl, rfl⟩) (by assumption) ?r19u140
                (try simp only [Act.put]); (try simp only [List.setIfInBounds_toArray]); (try simp only [List.set_cons_succ]); (try simp only [List.set_cons_zero])
                refine wpAnyH_take (i := 20) (oi := { dst := some 62, op := Op.load 9 (Operand.tmp 61), type := 9, pos := "ref.go:257", after := #[{ on := 19, ground := Ground.data }, { on := 14, ground := Ground.guard }], guard := some (14, true) }) (v := undef) rfl (by kernel_rfl) (by kernel_rfl) (by kernel_rfl) (fun _ _ _ h => h) (Or.inr ⟨by kernel_rfl, rfl⟩) (by assumption) ?r20u141
                (try simp only [Act.put]); (try simp only [List.setIfInBounds_toArray]); (try simp only [List.set_cons_succ]); (try simp only [List.set_cons_zero])
                refine wpAnyH_take (i := 21) (oi := { dst := some 63, op := Op.move (Operand.tmp 8), type := 52, pos := "ref.go:257", after := #[{ on := 14, ground := Ground.guard }], guard := some (14, true) }) (v := undef) rfl (by kernel_rfl) (by kernel_rfl) (by kernel_rfl) (fun _ _ _ h => h) (Or.inr ⟨by kernel_rfl, rfl⟩) (by assumption) ?r21u142
                (try simp only [Act.put]); (try simp only [List.setIfInBounds_toArray]); (try simp only [List.set_cons_succ]); (try simp only [List.set_cons_zero])
                refine wpAnyH_take (i := 22) (oi := { dst := some 64, op := Op.move (Operand.tmp 9), type := 3, pos := "ref.go:257", after := #[{ on := 14, ground := Ground.guard }], guard := some (14, true) }) (v := undef) rfl (by kernel_rfl) (by kernel_rfl) (by kernel_rfl) (fun _ _ _ h => h) (Or.inr ⟨by kernel_rfl, rfl⟩) (by assumption) ?r22u143
                (try simp only [Act.put]); (try simp only [List.setIfInBounds_toArray]); (try simp only [List.set_cons_succ]); (try simp only [List.set_cons_zero])
                refine wpAnyH_take (i := 23) (oi := { dst := some 65, op := Op.indexAddr 52 (Operand.tmp 63) (Operand.tmp 64), type := 0, pos := "ref.go:257", after := #[{ on := 21, ground := Ground.data }, { on := 22, ground := Ground.data }, { on := 14, ground := Ground.guard }], guard := some (14, true) }) (v := undef) rfl (by kernel_rfl) (by kernel_rfl) (by kernel_rfl) (fun _ _ _ h => h) (Or.inr ⟨by kernel_rfl, rfl⟩) (by assumption) ?r23u144
                (try simp only [Act.put]); (try simp only [List.setIfInBounds_toArray]); (try simp only [List.set_cons_succ]); (try simp only [List.set_cons_zero])
                refine wpAnyH_take (i := 24) (oi := { dst := some 66, op := Op.fieldAddr 61 (Operand.tmp 65) 1, type := 0, pos := "ref.go:257", after := #[{ on := 23, ground := Ground.data }, { on := 14, ground := Ground.guard }], guard := some (14, true) }) (v := undef) rfl (by kernel_rfl) (by kernel_rfl) (by kernel_rfl) (fun _ _ _ h => h) (Or.inr ⟨by kernel_rfl, rfl⟩) (by assumption) ?r24u145
                (try simp only [Act.put]); (try simp only [List.setIfInBounds_toArray]); (try simp only [List.set_cons_succ]); (try simp only [List.set_cons_zero])
                refine wpAnyH_take (i := 25) (oi := { dst := some 67, op := Op.fieldAddr 37 (Operand.tmp 66) 0, type := 0, pos := "ref.go:257", after := #[{ on := 24, ground := Ground.data }, { on := 14, ground := Ground.guard }], guard := some (14, true) }) (v := undef) rfl (by kernel_rfl) (by kernel_rfl) (by kernel_rfl) (fun _ _ _ h => h) (Or.inr ⟨by kernel_rfl, rfl⟩) (by assumption) ?r25u146
                (try simp only [Act.put]); (try simp only [List.setIfInBounds_toArray]); (try simp only [List.set_cons_succ]); (try simp only [List.set_cons_zero])
                refine wpAnyH_take (i := 26) (oi := { dst := some 68, op := Op.load 9 (Operand.tmp 67), type := 9, pos := "ref.go:257", after := #[{ on := 25, ground := Ground.data }, { on := 14, ground := Ground.guard }], guard := some (14, true) }) (v := undef) rfl (by kernel_rfl) (by kernel_rfl) (by kernel_rfl) (fun _ _ _ h => h) (Or.inr ⟨by kernel_rfl, rfl⟩) (by assumption) ?r26u147
                (try simp only [Act.put]); (try simp only [List.setIfInBounds_toArray]); (try simp only [List.set_cons_succ]); (try simp only [List.set_cons_zero])
                refine wpAnyH_take (i := 27) (oi := { dst := some 69, op := Op.binOp BinOp.neq 9 (Operand.tmp 62) (Operand.tmp 68) 9, type := 4, pos := "ref.go:257", after := #[{ on := 20, ground := Ground.data }, { on := 26, ground := Ground.data }, { on := 14, ground := Ground.guard }], guard := some (14, true) }) (v := undef) rfl (by kernel_rfl) (by kernel_rfl) (by kernel_rfl) (fun _ _ _ h => h) (Or.inr ⟨by kernel_rfl, rfl⟩) (by assumption) ?r27u148
                (try simp only [Act.put]); (try simp only [List.setIfInBounds_toArray]); (try simp only [List.set_cons_succ]); (try simp only [List.set_cons_zero])
                refine wpAnyH_take (i := 28) (oi := { dst := some 70, op := Op.pick (Operand.tmp 56) (Operand.tmp 69) (Operand.const (Value.bool false)), type := 4, pos := "ref.go:257", after := #[{ on := 14, ground := Ground.data }, { on := 27, ground := Ground.data }, { on := 12, ground := Ground.guard }], guard := some (12, false) }) (v := ?v28u149) rfl (by kernel_rfl) (by kernel_rfl) (by kernel_rfl) (fun _ _ _ h => h) (Or.inl ⟨by rfl, ?y28u149⟩) (by assumption) ?r28u149
                case y28u149 => (intro w hSw; obtain ⟨-, s1, s2, s3, s4, s5, s6, s7, s8, s9, s10, s11, s12, s13, s14⟩ := hSw; go_simp; (try with_reducible rfl))
                (try simp only [Act.put]); (try simp only [List.setIfInBounds_toArray]); (try simp only [List.set_cons_succ]); (try simp only [List.set_cons_zero])
                refine wpAnyH_take (i := 29) (oi := { dst := some 71, op := Op.pick (Operand.tmp 54) (Operand.const (Value.bool true)) (Operand.tmp 70), type := 4, pos := "ref.go:257", after := #[{ on := 12, ground := Ground.data }, { on := 28, ground := Ground.data }], guard := none }) (v := ?v29u150) rfl (by kernel_rfl) (by kernel_rfl) (by kernel_rfl) (fun _ _ _ h => h) (Or.inl ⟨by rfl, ?y29u150⟩) (by assumption) ?r29u150
                case y29u150 => (intro w hSw; obtain ⟨-, s1, s2, s3, s4, s5, s6, s7, s8, s9, s10, s11, s12, s13, s14⟩ := hSw; go_simp; (try with_reducible rfl))
                (try simp only [Act.put]); (try simp only [List.setIfInBounds_toArray]); (try simp only [List.set_cons_succ]); (try simp only [List.set_cons_zero])
                refine wpAnyH_done (by kernel_rfl) ?_ _
                have HB := hidM hHeld.1.out.gr
                clear hHeld hk1 HIN
                go_wp2
                go_roundw
                case rel =>
                  refine ⟨k + 1, by omega, by simp, HB.out, fun i hi hi' h => ?_⟩
                  by_cases e : i = k
                  · subst e; rw [← HX.out, ← HY.out]; exact HZ.out
                  · exact HP.out i hi hi' (by omega)
                case measure => simp [intOf]; omega
        · have HRt : Hid (R = true) := by
            show R = true
            rw [HR.out]
            unfold alikeB
            rw [sameAll_true (by have := Hn.out; have := Hm.out; omega) fun i hi hi' => HK.out.2 i hi hi' (by have := Hn.out; omega)]
            simp
          have hkL : k = n := by omega
          subst hkL
          have HG := hidM (HG2.out.trans HK.out.1 (fun _ _ h => h))
          clear HK
          go_wp2
          go_ret
          exact ⟨by rw [HRt.out]; rfl, HG.out⟩
    · have HRf : Hid (R = false) := by show R = false; rw [HR.out]; unfold alikeB; rw [sameAll_len (by have := Hn.out; have := Hm.out; omega)]; simp
      have hb := beqZ (a := (n : Int)) (b := (m : Int)) (by omega)
      go_wp2
      go_ret
      exact ⟨by rw [HRf.out]; rfl, HG2.out⟩
  · have HRf : Hid (R = false) := by show R = false; rw [HR.out]; unfold alikeB; simp [hl]
    have hb := beqZ (a := (la : Int)) (b := (lb : Int)) (by omega)
    go_wp2
    go_ret
    exact ⟨by rw [HRf.out]; rfl, HG2.out⟩
end Go.Proofs.YtffmppnlddphaaaDoor.Kit
