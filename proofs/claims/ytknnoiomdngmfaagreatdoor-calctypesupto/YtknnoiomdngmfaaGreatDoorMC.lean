import Derived.Test.YtknnoiomdngmfaaGreatDoorLQ
import Derived.Test.YtknnoiomdngmfaaGreatDoorMF
import Derived.Deep.RegionHeld3
set_option maxRecDepth 100000
set_option maxHeartbeats 4000000
namespace Go.Proofs.YtknnoiomdngmfaaGreatDoor.Kit
open Go.RowKit Go.Shelf Go.Deep
set_option linter.unusedVariables false
attribute [local go_sem] run_store_func
theorem sameNode_any (s1 s2 : ByteArray) (n1 n2 : Bool) (k1 d1 i1 x1 k2 d2 i2 x2 : Int) (ao bo : Option Addr) (na ca nb cb : Nat) (w : World) :
    Calls Tryz.prog 52 #[.agg #[.string s1, .bool n1, .int .i64 k1, .int .i64 d1, .int .i64 i1, .int .i64 x1, .slice ao na ca], .agg #[.string s2, .bool n2, .int .i64 k2, .int .i64 d2, .int .i64 i2, .int .i64 x2, .slice bo nb cb]] w fun e w' => e = .returned (.bool ((n1 == n2) && ((k1 == k2 && d1 == d2 && i1 == i2 && x1 == x2) && decide (na = nb)))) ∧ Gr w w' := by
  go_enter Tryz.func52, Tryz.ntmps52
  go_wp2
  go_region
  all_goals go_wp2
  all_goals go_ret
  all_goals refine ⟨congrArg (fun b => Ending.returned (.bool b)) ?_, ((((gr_alloc _ _).alloc _).alloc _).alloc _).drew⟩
  all_goals (rw [Bool.eq_iff_iff]; simp [*]; try omega)
structure TwoN (w W : World) (g h k : Nat) (f e : FT) (fo eo : Option Addr) (fc ec : Nat) : Prop where
  gr : Gr w W
  c : W.cell? ⟨g, k * 10 + 1, none⟩ = some (.string f.name) ∧ W.cell? ⟨g, k * 10 + 2, none⟩ = some (.bool f.nul) ∧ W.cell? ⟨g, k * 10 + 3, none⟩ = some (.int .i64 f.kind) ∧ W.cell? ⟨g, k * 10 + 4, none⟩ = some (.int .i64 f.width) ∧ W.cell? ⟨g, k * 10 + 5, none⟩ = some (.int .i64 f.id) ∧ W.cell? ⟨g, k * 10 + 6, none⟩ = some (.int .i64 f.index) ∧ W.cell? ⟨g, k * 10 + 7, none⟩ = some (.slice fo f.kids.length fc) ∧ W.cell? ⟨h, k * 10 + 1, none⟩ = some (.string e.name) ∧ W.cell? ⟨h, k * 10 + 2, none⟩ = some (.bool e.nul) ∧ W.cell? ⟨h, k * 10 + 3, none⟩ = some (.int .i64 e.kind) ∧ W.cell? ⟨h, k * 10 + 4, none⟩ = some (.int .i64 e.width) ∧ W.cell? ⟨h, k * 10 + 5, none⟩ = some (.int .i64 e.id) ∧ W.cell? ⟨h, k * 10 + 6, none⟩ = some (.int .i64 e.index) ∧ W.cell? ⟨h, k * 10 + 7, none⟩ = some (.slice eo e.kids.length ec)
theorem twoN {w W : World} {g h k : Nat} {f e : FT} {fo eo : Option Addr} {fc ec : Nat} (t : TwoN w W g h k f e fo eo fc ec) : Hid (TwoN w W g h k f e fo eo fc ec) ∧ W.cell? ⟨g, k * 10 + 1, none⟩ = some (.string f.name) ∧ W.cell? ⟨g, k * 10 + 2, none⟩ = some (.bool f.nul) ∧ W.cell? ⟨g, k * 10 + 3, none⟩ = some (.int .i64 f.kind) ∧ W.cell? ⟨g, k * 10 + 4, none⟩ = some (.int .i64 f.width) ∧ W.cell? ⟨g, k * 10 + 5, none⟩ = some (.int .i64 f.id) ∧ W.cell? ⟨g, k * 10 + 6, none⟩ = some (.int .i64 f.index) ∧ W.cell? ⟨g, k * 10 + 7, none⟩ = some (.slice fo f.kids.length fc) ∧ W.cell? ⟨h, k * 10 + 1, none⟩ = some (.string e.name) ∧ W.cell? ⟨h, k * 10 + 2, none⟩ = some (.bool e.nul) ∧ W.cell? ⟨h, k * 10 + 3, none⟩ = some (.int .i64 e.kind) ∧ W.cell? ⟨h, k * 10 + 4, none⟩ = some (.int .i64 e.width) ∧ W.cell? ⟨h, k * 10 + 5, none⟩ = some (.int .i64 e.id) ∧ W.cell? ⟨h, k * 10 + 6, none⟩ = some (.int .i64 e.index) ∧ W.cell? ⟨h, k * 10 + 7, none⟩ = some (.slice eo e.kids.length ec) := ⟨t, t.c⟩
theorem TwoN.gr' {w W : World} {g h k : Nat} {f e : FT} {fo eo : Option Addr} {fc ec : Nat} (t : TwoN w W g h k f e fo eo fc ec) {W' : World} (q : Gr W W') : TwoN w W' g h k f e fo eo fc ec := by
  obtain ⟨tg, a1, a2, a3, a4, a5, a6, a7, b1, b2, b3, b4, b5, b6, b7⟩ := t
  exact ⟨tg.tr q, q.cell' a1 id, q.cell' a2 id, q.cell' a3 id, q.cell' a4 id, q.cell' a5 id, q.cell' a6 id, q.cell' a7 id, q.cell' b1 id, q.cell' b2 id, q.cell' b3 id, q.cell' b4 id, q.cell' b5 id, q.cell' b6 id, q.cell' b7 id⟩
theorem twoN_kept {w W : World} {g h k : Nat} {f e : FT} {fo eo : Option Addr} {fc ec : Nat} {W' : World} (t : Hid (TwoN w W g h k f e fo eo fc ec) ∧ W.cell? ⟨g, k * 10 + 1, none⟩ = some (.string f.name) ∧ W.cell? ⟨g, k * 10 + 2, none⟩ = some (.bool f.nul) ∧ W.cell? ⟨g, k * 10 + 3, none⟩ = some (.int .i64 f.kind) ∧ W.cell? ⟨g, k * 10 + 4, none⟩ = some (.int .i64 f.width) ∧ W.cell? ⟨g, k * 10 + 5, none⟩ = some (.int .i64 f.id) ∧ W.cell? ⟨g, k * 10 + 6, none⟩ = some (.int .i64 f.index) ∧ W.cell? ⟨g, k * 10 + 7, none⟩ = some (.slice fo f.kids.length fc) ∧ W.cell? ⟨h, k * 10 + 1, none⟩ = some (.string e.name) ∧ W.cell? ⟨h, k * 10 + 2, none⟩ = some (.bool e.nul) ∧ W.cell? ⟨h, k * 10 + 3, none⟩ = some (.int .i64 e.kind) ∧ W.cell? ⟨h, k * 10 + 4, none⟩ = some (.int .i64 e.width) ∧ W.cell? ⟨h, k * 10 + 5, none⟩ = some (.int .i64 e.id) ∧ W.cell? ⟨h, k * 10 + 6, none⟩ = some (.int .i64 e.index) ∧ W.cell? ⟨h, k * 10 + 7, none⟩ = some (.slice eo e.kids.length ec)) (q : Hid (Gr W W')) : Hid (TwoN w W' g h k f e fo eo fc ec) ∧ W'.cell? ⟨g, k * 10 + 1, none⟩ = some (.string f.name) ∧ W'.cell? ⟨g, k * 10 + 2, none⟩ = some (.bool f.nul) ∧ W'.cell? ⟨g, k * 10 + 3, none⟩ = some (.int .i64 f.kind) ∧ W'.cell? ⟨g, k * 10 + 4, none⟩ = some (.int .i64 f.width) ∧ W'.cell? ⟨g, k * 10 + 5, none⟩ = some (.int .i64 f.id) ∧ W'.cell? ⟨g, k * 10 + 6, none⟩ = some (.int .i64 f.index) ∧ W'.cell? ⟨g, k * 10 + 7, none⟩ = some (.slice fo f.kids.length fc) ∧ W'.cell? ⟨h, k * 10 + 1, none⟩ = some (.string e.name) ∧ W'.cell? ⟨h, k * 10 + 2, none⟩ = some (.bool e.nul) ∧ W'.cell? ⟨h, k * 10 + 3, none⟩ = some (.int .i64 e.kind) ∧ W'.cell? ⟨h, k * 10 + 4, none⟩ = some (.int .i64 e.width) ∧ W'.cell? ⟨h, k * 10 + 5, none⟩ = some (.int .i64 e.id) ∧ W'.cell? ⟨h, k * 10 + 6, none⟩ = some (.int .i64 e.index) ∧ W'.cell? ⟨h, k * 10 + 7, none⟩ = some (.slice eo e.kids.length ec) := twoN (t.1.out.gr' q.out)
theorem alike_any (S : Nat → Prop) (D : Nat) (nm : Bool) (ao bo : Option Addr) (ca cb : Nat) (a b : List FT) (W : World) (ha : RowAt S W D ao a) (hca : a.length ≤ ca) (hb : RowAt S W D bo b) (hcb : b.length ≤ cb) (hS : ∀ b, S b → b < W.heap.size) :
    Calls Tryz.prog 36 #[.slice ao a.length ca, .slice bo b.length cb, .bool nm] W fun e w' => e = .returned (.bool (alikeB nm a.length b.length (grown [] (nodesC D a [] false)) (grown [] (nodesC D b [] false)))) ∧ Gr W w' := by
  have hN := grown_le [] (nodesC D a [] false)
  have hM := grown_le [] (nodesC D b [] false)
  have c1 := grow_any S D W ao none none ca 0 0 a [] false [] ha hca (by simp) (World.ownsRow_nil _ _ _ _) (OutAt.nil S W) (by simp) (fun b hb => ⟨hS b hb, by simp [Value.ownBlock]⟩)
  have H2 : Hid (∀ w1, Gr W w1 → Calls Tryz.prog 51 #[.slice bo b.length cb, .slice none 0 0, .bool false, .slice none 0 0] w1 (GrowR S w1 (.slice none 0 0) (grown [] (nodesC D b [] false)))) := fun w1 g1 =>
    grow_any S D w1 bo none none cb 0 0 b [] false [] (hb.kept fun b h => g1.block b (hS b h) id) hcb (by simp) (World.ownsRow_nil _ _ _ _) (OutAt.nil S w1) (by simp) (fun b hb => ⟨by have := hS b hb; have := g1.size; omega, by simp [Value.ownBlock]⟩)
  have H1 := hidM c1
  have hla : a.length ≤ 1000000000000 := ha.len
  have hlb : b.length ≤ 1000000000000 := hb.len
  have HS := hidM hS
  have H65 : Hid (∀ x ∈ grown [] (nodesC D a [] false), x.path.length ≤ 65) := fun x hx => nodesC_path D a [] false x (by simp) (List.mem_of_mem_take hx)
  clear c1 ha hb hS hca hcb
  generalize grown [] (nodesC D a [] false) = N at *
  generalize grown [] (nodesC D b [] false) = M at *
  generalize a.length = la at *
  generalize b.length = lb at *
  clear a b
  obtain ⟨R, hR⟩ : ∃ R, R = alikeB nm la lb N M := ⟨_, rfl⟩
  rw [← hR]
  have HR := hidM hR
  clear hR
  go_enter Tryz.func36, Tryz.ntmps36
  go_wp2_with (go_at_call 51; refine Hid.out ?_)
  unfold Hid
  refine Calls.mono H1.out ?_
  rintro e w1 ⟨vo, vc, rfl, hI⟩
  have hg1 : Gr W w1 := hI.k.mono fun _ _ h => by simp [Value.ownBlock] at h
  have HO1 : Hid (OutAt S w1 (.slice vo N.length vc) N ∧ ∀ b, S b → b < w1.heap.size ∧ (Value.slice vo N.length vc).ownBlock ≠ some b) := ⟨hI.at_, fun b hb => by
    have h1 := HS.out b hb
    have h3 := hg1.size
    refine ⟨by omega, fun e => ?_⟩
    rcases hI.own with h | h
    · rw [h] at e; simp [Value.ownBlock] at e
    have := h b e; omega⟩
  have HG1 := hidM hg1
  clear hI hg1 H1
  obtain ⟨n, hn⟩ : ∃ n, n = N.length := ⟨_, rfl⟩
  obtain ⟨m, hm⟩ : ∃ m, m = M.length := ⟨_, rfl⟩
  rw [← hn] at hN ⊢
  rw [← hm] at hM
  have Hn := hidM hn
  have Hm := hidM hm
  clear hn hm
  go_wp2_with (go_at_call 51; refine Hid.out ?_)
  unfold Hid
  refine Calls.mono (H2.out w1 HG1.out) ?_
  rintro e w2 ⟨uo, uc, rfl, hI⟩
  rw [← Hm.out] at hI ⊢
  have hg2 : Gr w1 w2 := hI.k.mono fun _ _ h => by simp [Value.ownBlock] at h
  have HO : Hid (OutAt S w2 (.slice vo N.length vc) N ∧ OutAt S w2 (.slice uo M.length uc) M ∧ (∀ b, S b → b < w2.heap.size ∧ (Value.slice vo N.length vc).ownBlock ≠ some b) ∧ (∀ b, S b → b < w2.heap.size ∧ (Value.slice uo M.length uc).ownBlock ≠ some b)) := by
    refine ⟨HO1.out.1.keeps hg2 HO1.out.2, by rw [← Hm.out]; exact hI.at_, fun b hb => ?_, fun b hb => ?_⟩
    · have h1 := HO1.out.2 b hb
      have := hg2.size
      exact ⟨by omega, h1.2⟩
    have h1 := HO1.out.2 b hb
    have h3 := hg2.size
    refine ⟨by omega, fun e => ?_⟩
    rw [← Hm.out] at e
    rcases hI.own with h | h
    · rw [h] at e; simp [Value.ownBlock] at e
    have := h b e; omega
  have HG2 := hidM (HG1.out.tr hg2)
  clear hI hg2 HO1 HG1 H2 HS
  by_cases hl : la = lb
  · subst hl
    by_cases hnm : n = m
    · subst hnm
      go_wp2
      go_loopw [29] (fun p wr => ∃ k : Nat, k ≤ n ∧ p = .int .i64 (k : Int) ∧ Hid (Gr w2 wr ∧ ∀ i (h : i < N.length) (h' : i < M.length), i < k → ndEq nm N[i] M[i] = true)) (fun p _ => n - (intOf p).toNat)
      case atStart => exact ⟨0, by omega, rfl, Keeps.refl _ _, fun i _ _ h => by omega⟩
      case round =>
        obtain ⟨k, hk, rfl, HK⟩ := hrel
        by_cases hlt : k < n
        · have hkN : k < N.length := by have := Hn.out; omega
          have hkM : k < M.length := by have := Hm.out; omega
          obtain ⟨g, rfl, hgv, hten⟩ := (HO.out.1.keeps HK.out.1 HO.out.2.2.1).ten (by omega)
          obtain ⟨h, rfl, hhv, hten'⟩ := (HO.out.2.1.keeps HK.out.1 HO.out.2.2.2).ten (by omega)
          obtain ⟨wb, wc, fo, fc, ao', ca', t, _⟩ := hten k hkN
          obtain ⟨wb', wc', eo, ec, bo', cb', t', _⟩ := hten' k hkM
          obtain ⟨x, hx⟩ : ∃ x, x = N[k]'hkN := ⟨_, rfl⟩
          obtain ⟨y, hy⟩ : ∃ y, y = M[k]'hkM := ⟨_, rfl⟩
          rw [← hx] at t
          rw [← hy] at t'
          have HP := hidM HK.out.2
          have HGk := hidM HK.out.1
          have HT : Hid (TwoN w2 wr g h k x.fld y.fld fo eo fc ec) := ⟨HK.out.1, t.c1, t.c2, t.c3, t.c4, t.c5, t.c6, t.c7, t'.c1, t'.c2, t'.c3, t'.c4, t'.c5, t'.c6, t'.c7⟩
          have c0 := t.c0
          have hxp := H65.out x (by rw [hx]; exact List.getElem_mem _)
          have HX := hidM hx
          have HY := hidM hy
          clear hten hten' t t' hx hy HK
          have hltI : (k : Int) < (n : Int) := by omega
          have HD : Hid (ndEq nm x y = (nodeEq x.fld y.fld && (!(nm || decide (1 < x.path.length)) || sEq x.fld.name y.fld.name))) := rfl
          have HRf : Hid (ndEq nm x y = false → R = false) := fun hz => by
            rw [HR.out]; unfold alikeB
            rw [sameAll_false k hkN hkM (by rw [← HX.out, ← HY.out]; exact hz)]; simp
          generalize hP : x.path.length = P at *
          clear hP
          generalize x.fld = f at *
          generalize y.fld = q at *
          have C78 : Hid (∀ W', Calls Tryz.prog 52 #[.agg #[.string f.name, .bool f.nul, .int .i64 f.kind, .int .i64 f.width, .int .i64 f.id, .int .i64 f.index, .slice fo f.kids.length fc], .agg #[.string q.name, .bool q.nul, .int .i64 q.kind, .int .i64 q.width, .int .i64 q.id, .int .i64 q.index, .slice eo q.kids.length ec]] W' fun e w' => e = .returned (.bool (nodeEq f q)) ∧ Gr W' w') := fun W' => sameNode_any _ _ _ _ _ _ _ _ _ _ _ _ _ _ _ _ _ _ W'
          generalize nodeEq f q = r at *
          unfold sEq at HD
          have HIN : Hid (Hid (TwoN w2 wr.drew g h k f q fo eo fc ec) ∧ wr.drew.cell? ⟨g, k * 10 + 1, none⟩ = some (.string f.name) ∧ wr.drew.cell? ⟨g, k * 10 + 2, none⟩ = some (.bool f.nul) ∧ wr.drew.cell? ⟨g, k * 10 + 3, none⟩ = some (.int .i64 f.kind) ∧ wr.drew.cell? ⟨g, k * 10 + 4, none⟩ = some (.int .i64 f.width) ∧ wr.drew.cell? ⟨g, k * 10 + 5, none⟩ = some (.int .i64 f.id) ∧ wr.drew.cell? ⟨g, k * 10 + 6, none⟩ = some (.int .i64 f.index) ∧ wr.drew.cell? ⟨g, k * 10 + 7, none⟩ = some (.slice fo f.kids.length fc) ∧ wr.drew.cell? ⟨h, k * 10 + 1, none⟩ = some (.string q.name) ∧ wr.drew.cell? ⟨h, k * 10 + 2, none⟩ = some (.bool q.nul) ∧ wr.drew.cell? ⟨h, k * 10 + 3, none⟩ = some (.int .i64 q.kind) ∧ wr.drew.cell? ⟨h, k * 10 + 4, none⟩ = some (.int .i64 q.width) ∧ wr.drew.cell? ⟨h, k * 10 + 5, none⟩ = some (.int .i64 q.id) ∧ wr.drew.cell? ⟨h, k * 10 + 6, none⟩ = some (.int .i64 q.index) ∧ wr.drew.cell? ⟨h, k * 10 + 7, none⟩ = some (.slice eo q.kids.length ec)) := twoN (HT.out.gr' gr_drew)
          have hidx : (0 : Int) ≤ (k : Int) := by omega
          cases nm with
          | true =>
            go_wp2
            clear c0
            refine wp_region_held_drew (S := fun w' => Hid (TwoN w2 w' g h k f q fo eo fc ec) ∧ w'.cell? ⟨g, k * 10 + 1, none⟩ = some (.string f.name) ∧ w'.cell? ⟨g, k * 10 + 2, none⟩ = some (.bool f.nul) ∧ w'.cell? ⟨g, k * 10 + 3, none⟩ = some (.int .i64 f.kind) ∧ w'.cell? ⟨g, k * 10 + 4, none⟩ = some (.int .i64 f.width) ∧ w'.cell? ⟨g, k * 10 + 5, none⟩ = some (.int .i64 f.id) ∧ w'.cell? ⟨g, k * 10 + 6, none⟩ = some (.int .i64 f.index) ∧ w'.cell? ⟨g, k * 10 + 7, none⟩ = some (.slice fo f.kids.length fc) ∧ w'.cell? ⟨h, k * 10 + 1, none⟩ = some (.string q.name) ∧ w'.cell? ⟨h, k * 10 + 2, none⟩ = some (.bool q.nul) ∧ w'.cell? ⟨h, k * 10 + 3, none⟩ = some (.int .i64 q.kind) ∧ w'.cell? ⟨h, k * 10 + 4, none⟩ = some (.int .i64 q.width) ∧ w'.cell? ⟨h, k * 10 + 5, none⟩ = some (.int .i64 q.id) ∧ w'.cell? ⟨h, k * 10 + 6, none⟩ = some (.int .i64 q.index) ∧ w'.cell? ⟨h, k * 10 + 7, none⟩ = some (.slice eo q.kids.length ec)) (by kernel_rfl) HIN.out (fun hHeld => ?_)
            refine tk 0 ?_
            refine tk 1 ?_
            refine tk 2 ?_
            refine tk 3 ?_
            refine tk 4 ?_
            refine tk 5 ?_
            refine tk 6 ?_
            refine tk 7 ?_
            refine tk 8 ?_
            refine tk 9 ?_
            refine wpAnyH_ready (rs := [10]) (by kernel_rfl) (by simp) ?_
            refine AllReadyH.cons (o := { dst := some 52, op := Op.call { callee := Callee.value (Operand.func 52), args := #[Operand.tmp 46, Operand.tmp 51], argTypes := #[26, 26] }, type := 4, pos := "ref.go:257", after := #[{ on := 4, ground := Ground.data }, { on := 9, ground := Ground.data }], guard := none }) rfl (fun K hK => ?_) AllReadyH.nil
            go_simp
            go_at_call 52
            refine Calls.mono (C78.out _) ?_
            rintro e' v1 ⟨rfl, hk1⟩
            replace hk1 := hidM hk1
            go_wp2_with fail
            refine hK.out _ _ (twoN_kept hHeld hk1) (fun hHeld => ?_)
            clear hK K
            try simp only [Act.put, lA, lB, lC]
            cases r with
            | false =>
              have HZ : Hid (ndEq true x y = false) := by show _ = _; rw [HD.out]; rfl
              refine tk 11 ?_
              refine tk 12 ?_
              refine sk 13 ?_
              refine sk 14 ?_
              refine sk 15 ?_
              refine sk 16 ?_
              refine sk 17 ?_
              refine sk 18 ?_
              refine sk 19 ?_
              refine sk 20 ?_
              refine sk 21 ?_
              refine sk 22 ?_
              refine sk 23 ?_
              refine sk 24 ?_
              refine sk 25 ?_
              refine sk 26 ?_
              refine sk 27 ?_
              refine sk 28 ?_
              refine tk 29 ?_
              refine wpAnyH_done (by kernel_rfl) ?_ _
              have HB := hidM hHeld.1.out.gr
              clear hHeld hk1 HIN
              go_wp2
              go_ret
              exact ⟨by rw [HRf.out HZ.out]; rfl, HG2.out.tr HB.out⟩
            | true =>
              refine tk 11 ?_
              refine tk 12 ?_
              refine tk 13 ?_
              refine tk 14 ?_
              refine tk 15 ?_
              refine tk 16 ?_
              refine tk 17 ?_
              refine tk 18 ?_
              refine tk 19 ?_
              refine tk 20 ?_
              refine tk 21 ?_
              refine tk 22 ?_
              refine tk 23 ?_
              refine tk 24 ?_
              refine tk 25 ?_
              refine tk 26 ?_
              cases hsq : (f.name.toList == q.name.toList) with
              | false =>
                have HZ : Hid (ndEq true x y = false) := by show _ = _; rw [HD.out, hsq]; simp [Bool.true_or]
                have hsn : (f.name.toList != q.name.toList) = true := by simp [bne, hsq]
                refine tk 27 ?_
                refine tk 28 ?_
                refine tk 29 ?_
                refine wpAnyH_done (by kernel_rfl) ?_ _
                have HB := hidM hHeld.1.out.gr
                clear hHeld hk1 HIN
                go_wp2
                go_ret
                exact ⟨by rw [HRf.out HZ.out]; rfl, HG2.out.tr HB.out⟩
              | true =>
                have HZ : Hid (ndEq true x y = true) := by show _ = _; rw [HD.out, hsq]; simp
                have hsn : (f.name.toList != q.name.toList) = false := by simp [bne, hsq]
                refine tk 27 ?_
                refine tk 28 ?_
                refine tk 29 ?_
                refine wpAnyH_done (by kernel_rfl) ?_ _
                have HB := hidM hHeld.1.out.gr
                clear hHeld hk1 HIN
                go_wp2
                go_roundw
                case rel =>
                  refine ⟨k + 1, by omega, by simp, HB.out, fun i hi hi' h => ?_⟩
                  by_cases e : i = k
                  · subst e; rw [← HX.out, ← HY.out]; exact HZ.out
                  exact HP.out i hi hi' (by omega)
                case measure => simp [intOf]; omega
          | false =>
            by_cases h1 : 1 < P
            · have h1' : (1 : Int) < (P : Int) := by omega
              go_wp2
              clear c0
              refine wp_region_held_drew (S := fun w' => Hid (TwoN w2 w' g h k f q fo eo fc ec) ∧ w'.cell? ⟨g, k * 10 + 1, none⟩ = some (.string f.name) ∧ w'.cell? ⟨g, k * 10 + 2, none⟩ = some (.bool f.nul) ∧ w'.cell? ⟨g, k * 10 + 3, none⟩ = some (.int .i64 f.kind) ∧ w'.cell? ⟨g, k * 10 + 4, none⟩ = some (.int .i64 f.width) ∧ w'.cell? ⟨g, k * 10 + 5, none⟩ = some (.int .i64 f.id) ∧ w'.cell? ⟨g, k * 10 + 6, none⟩ = some (.int .i64 f.index) ∧ w'.cell? ⟨g, k * 10 + 7, none⟩ = some (.slice fo f.kids.length fc) ∧ w'.cell? ⟨h, k * 10 + 1, none⟩ = some (.string q.name) ∧ w'.cell? ⟨h, k * 10 + 2, none⟩ = some (.bool q.nul) ∧ w'.cell? ⟨h, k * 10 + 3, none⟩ = some (.int .i64 q.kind) ∧ w'.cell? ⟨h, k * 10 + 4, none⟩ = some (.int .i64 q.width) ∧ w'.cell? ⟨h, k * 10 + 5, none⟩ = some (.int .i64 q.id) ∧ w'.cell? ⟨h, k * 10 + 6, none⟩ = some (.int .i64 q.index) ∧ w'.cell? ⟨h, k * 10 + 7, none⟩ = some (.slice eo q.kids.length ec)) (by kernel_rfl) HIN.out (fun hHeld => ?_)
              refine tk 0 ?_
              refine tk 1 ?_
              refine tk 2 ?_
              refine tk 3 ?_
              refine tk 4 ?_
              refine tk 5 ?_
              refine tk 6 ?_
              refine tk 7 ?_
              refine tk 8 ?_
              refine tk 9 ?_
              refine wpAnyH_ready (rs := [10]) (by kernel_rfl) (by simp) ?_
              refine AllReadyH.cons (o := { dst := some 52, op := Op.call { callee := Callee.value (Operand.func 52), args := #[Operand.tmp 46, Operand.tmp 51], argTypes := #[26, 26] }, type := 4, pos := "ref.go:257", after := #[{ on := 4, ground := Ground.data }, { on := 9, ground := Ground.data }], guard := none }) rfl (fun K hK => ?_) AllReadyH.nil
              go_simp
              go_at_call 52
              refine Calls.mono (C78.out _) ?_
              rintro e' v1 ⟨rfl, hk1⟩
              replace hk1 := hidM hk1
              go_wp2_with fail
              refine hK.out _ _ (twoN_kept hHeld hk1) (fun hHeld => ?_)
              clear hK K
              try simp only [Act.put, lA, lB, lC]
              cases r with
              | false =>
                have HZ : Hid (ndEq false x y = false) := by show _ = _; rw [HD.out]; rfl
                refine tk 11 ?_
                refine tk 12 ?_
                refine sk 13 ?_
                refine sk 14 ?_
                refine sk 15 ?_
                refine sk 16 ?_
                refine sk 17 ?_
                refine sk 18 ?_
                refine sk 19 ?_
                refine sk 20 ?_
                refine sk 21 ?_
                refine sk 22 ?_
                refine sk 23 ?_
                refine sk 24 ?_
                refine sk 25 ?_
                refine sk 26 ?_
                refine sk 27 ?_
                refine sk 28 ?_
                refine tk 29 ?_
                refine wpAnyH_done (by kernel_rfl) ?_ _
                have HB := hidM hHeld.1.out.gr
                clear hHeld hk1 HIN
                go_wp2
                go_ret
                exact ⟨by rw [HRf.out HZ.out]; rfl, HG2.out.tr HB.out⟩
              | true =>
                refine tk 11 ?_
                refine tk 12 ?_
                refine tk 13 ?_
                refine tk 14 ?_
                refine tk 15 ?_
                refine tk 16 ?_
                refine tk 17 ?_
                refine tk 18 ?_
                refine tk 19 ?_
                refine tk 20 ?_
                refine tk 21 ?_
                refine tk 22 ?_
                refine tk 23 ?_
                refine tk 24 ?_
                refine tk 25 ?_
                refine tk 26 ?_
                cases hsq : (f.name.toList == q.name.toList) with
                | false =>
                  have HZ : Hid (ndEq false x y = false) := by show _ = _; rw [HD.out, hsq]; simp [h1]
                  have hsn : (f.name.toList != q.name.toList) = true := by simp [bne, hsq]
                  refine tk 27 ?_
                  refine tk 28 ?_
                  refine tk 29 ?_
                  refine wpAnyH_done (by kernel_rfl) ?_ _
                  have HB := hidM hHeld.1.out.gr
                  clear hHeld hk1 HIN
                  go_wp2
                  go_ret
                  exact ⟨by rw [HRf.out HZ.out]; rfl, HG2.out.tr HB.out⟩
                | true =>
                  have HZ : Hid (ndEq false x y = true) := by show _ = _; rw [HD.out, hsq]; simp
                  have hsn : (f.name.toList != q.name.toList) = false := by simp [bne, hsq]
                  refine tk 27 ?_
                  refine tk 28 ?_
                  refine tk 29 ?_
                  refine wpAnyH_done (by kernel_rfl) ?_ _
                  have HB := hidM hHeld.1.out.gr
                  clear hHeld hk1 HIN
                  go_wp2
                  go_roundw
                  case rel =>
                    refine ⟨k + 1, by omega, by simp, HB.out, fun i hi hi' h => ?_⟩
                    by_cases e : i = k
                    · subst e; rw [← HX.out, ← HY.out]; exact HZ.out
                    exact HP.out i hi hi' (by omega)
                  case measure => simp [intOf]; omega
            have h1' : ¬ (1 : Int) < (P : Int) := by omega
            go_wp2
            clear c0
            refine wp_region_held_drew (S := fun w' => Hid (TwoN w2 w' g h k f q fo eo fc ec) ∧ w'.cell? ⟨g, k * 10 + 1, none⟩ = some (.string f.name) ∧ w'.cell? ⟨g, k * 10 + 2, none⟩ = some (.bool f.nul) ∧ w'.cell? ⟨g, k * 10 + 3, none⟩ = some (.int .i64 f.kind) ∧ w'.cell? ⟨g, k * 10 + 4, none⟩ = some (.int .i64 f.width) ∧ w'.cell? ⟨g, k * 10 + 5, none⟩ = some (.int .i64 f.id) ∧ w'.cell? ⟨g, k * 10 + 6, none⟩ = some (.int .i64 f.index) ∧ w'.cell? ⟨g, k * 10 + 7, none⟩ = some (.slice fo f.kids.length fc) ∧ w'.cell? ⟨h, k * 10 + 1, none⟩ = some (.string q.name) ∧ w'.cell? ⟨h, k * 10 + 2, none⟩ = some (.bool q.nul) ∧ w'.cell? ⟨h, k * 10 + 3, none⟩ = some (.int .i64 q.kind) ∧ w'.cell? ⟨h, k * 10 + 4, none⟩ = some (.int .i64 q.width) ∧ w'.cell? ⟨h, k * 10 + 5, none⟩ = some (.int .i64 q.id) ∧ w'.cell? ⟨h, k * 10 + 6, none⟩ = some (.int .i64 q.index) ∧ w'.cell? ⟨h, k * 10 + 7, none⟩ = some (.slice eo q.kids.length ec)) (by kernel_rfl) HIN.out (fun hHeld => ?_)
            refine tk 0 ?_
            refine tk 1 ?_
            refine tk 2 ?_
            refine tk 3 ?_
            refine tk 4 ?_
            refine tk 5 ?_
            refine tk 6 ?_
            refine tk 7 ?_
            refine tk 8 ?_
            refine tk 9 ?_
            refine wpAnyH_ready (rs := [10]) (by kernel_rfl) (by simp) ?_
            refine AllReadyH.cons (o := { dst := some 52, op := Op.call { callee := Callee.value (Operand.func 52), args := #[Operand.tmp 46, Operand.tmp 51], argTypes := #[26, 26] }, type := 4, pos := "ref.go:257", after := #[{ on := 4, ground := Ground.data }, { on := 9, ground := Ground.data }], guard := none }) rfl (fun K hK => ?_) AllReadyH.nil
            go_simp
            go_at_call 52
            refine Calls.mono (C78.out _) ?_
            rintro e' v1 ⟨rfl, hk1⟩
            replace hk1 := hidM hk1
            go_wp2_with fail
            refine hK.out _ _ (twoN_kept hHeld hk1) (fun hHeld => ?_)
            clear hK K
            try simp only [Act.put, lA, lB, lC]
            cases r with
            | false =>
              have HZ : Hid (ndEq false x y = false) := by show _ = _; rw [HD.out]; rfl
              refine tk 11 ?_
              refine tk 12 ?_
              refine sk 13 ?_
              refine sk 14 ?_
              refine sk 15 ?_
              refine sk 16 ?_
              refine sk 17 ?_
              refine sk 18 ?_
              refine sk 19 ?_
              refine sk 20 ?_
              refine sk 21 ?_
              refine sk 22 ?_
              refine sk 23 ?_
              refine sk 24 ?_
              refine sk 25 ?_
              refine sk 26 ?_
              refine sk 27 ?_
              refine sk 28 ?_
              refine tk 29 ?_
              refine wpAnyH_done (by kernel_rfl) ?_ _
              have HB := hidM hHeld.1.out.gr
              clear hHeld hk1 HIN
              go_wp2
              go_ret
              exact ⟨by rw [HRf.out HZ.out]; rfl, HG2.out.tr HB.out⟩
            | true =>
              refine tk 11 ?_
              refine tk 12 ?_
              refine tk 13 ?_
              refine tk 14 ?_
              have HZ : Hid (ndEq false x y = true) := by show _ = _; rw [HD.out]; simp [h1]
              refine sk 15 ?_
              refine sk 16 ?_
              refine sk 17 ?_
              refine sk 18 ?_
              refine sk 19 ?_
              refine sk 20 ?_
              refine sk 21 ?_
              refine sk 22 ?_
              refine sk 23 ?_
              refine sk 24 ?_
              refine sk 25 ?_
              refine sk 26 ?_
              refine sk 27 ?_
              refine tk 28 ?_
              refine tk 29 ?_
              refine wpAnyH_done (by kernel_rfl) ?_ _
              have HB := hidM hHeld.1.out.gr
              clear hHeld hk1 HIN
              go_wp2
              go_roundw
              case rel =>
                refine ⟨k + 1, by omega, by simp, HB.out, fun i hi hi' h => ?_⟩
                by_cases e : i = k
                · subst e; rw [← HX.out, ← HY.out]; exact HZ.out
                exact HP.out i hi hi' (by omega)
              case measure => simp [intOf]; omega
        have HRt : Hid (R = true) := by
          show R = true
          rw [HR.out]
          unfold alikeB
          rw [sameAll_true (by have := Hn.out; have := Hm.out; omega) fun i hi hi' => HK.out.2 i hi hi' (by have := Hn.out; omega)]
          simp
        have hkL : k = n := by omega
        subst hkL
        have HG := hidM (HG2.out.tr HK.out.1)
        clear HK
        go_wp2
        go_ret
        exact ⟨by rw [HRt.out]; rfl, HG.out⟩
    have HRf : Hid (R = false) := by show R = false; rw [HR.out]; unfold alikeB; rw [sameAll_len (by have := Hn.out; have := Hm.out; omega)]; simp
    have hb := beqZ (a := (n : Int)) (b := (m : Int)) (by omega)
    go_wp2
    go_ret
    exact ⟨by rw [HRf.out]; rfl, HG2.out⟩
  have HRf : Hid (R = false) := by show R = false; rw [HR.out]; unfold alikeB; simp [hl]
  have hb := beqZ (a := (la : Int)) (b := (lb : Int)) (by omega)
  go_wp2
  go_ret
  exact ⟨by rw [HRf.out]; rfl, HG2.out⟩
end Go.Proofs.YtknnoiomdngmfaaGreatDoor.Kit
