import Derived.Test.YtkodgneneiledaaGreatDoorYRE
import Derived.Test.YtkodgneneiledaaGreatDoorYV
import Derived.Test.YtkodgneneiledaaGreatDoorVB
import Derived.Test.YtkodgneneiledaaGreatDoorSF
set_option maxRecDepth 100000
set_option maxHeartbeats 4000000
namespace Go.Proofs.YtkodgneneiledaaGreatDoor.Kit
open Go.RowKit Go.Shelf Go.Deep
set_option linter.unusedVariables false
attribute [local go_sem] run_store_func
theorem parse7_long (s : ByteArray) (W : World) (hs : ¬ s.size ≤ 65536) : Calls Tryz.prog 7 #[.string s] W (ParQ W s (schP s.data.toList)) := by
  have hlt : (65536 : Int) < (s.size : Int) := by omega
  have Hs : Hid (65536 < s.size) := by show _ < _; omega
  have HG : Hid (Gr W (W.alloc (.cells #[.slice none 0 0, .slice none 0 0] 27))) := gr_alloc W _
  have HB : Hid ((W.alloc (.cells #[.slice none 0 0, .slice none 0 0] 27)).heap[W.heap.size]? = some (.cells #[.slice none 0 0, .slice none 0 0] 27 (0, 0))) := heap_alloc_new W _
  clear hs
  go_enter Tryz.func7, Tryz.ntmps7
  go_wp2_with fail
  (try simp only [Exit.inBlock, Exit.then])
  exact bodyPost_ret (results_parse (z := .int .i64 4) (x := .int .i64 65536) rfl rfl rfl rfl HB.out) rfl ⟨HG.out, .inl ⟨4, 65536, by decide, .inl ⟨Hs.out, rfl, rfl⟩, rfl⟩⟩
theorem parseField10_long (s : ByteArray) (W : World) (hs : ¬ s.size ≤ 65536) : Calls Tryz.prog 10 #[.string s] W (PfQ W s) := by
  have hlt : (65536 : Int) < (s.size : Int) := by omega
  have Hs : Hid (65536 < s.size) := by show _ < _; omega
  have HG : Hid (Gr W (W.alloc (.cells #[.string ⟨#[]⟩, .bool false, .int .i64 0, .int .i64 0, .int .i64 0, .int .i64 0, .slice none 0 0] 37))) := gr_alloc W _
  have HB : Hid ((W.alloc (.cells #[.string ⟨#[]⟩, .bool false, .int .i64 0, .int .i64 0, .int .i64 0, .int .i64 0, .slice none 0 0] 37)).heap[W.heap.size]? = some (.cells #[.string ⟨#[]⟩, .bool false, .int .i64 0, .int .i64 0, .int .i64 0, .int .i64 0, .slice none 0 0] 37 (0, 0))) := heap_alloc_new W _
  clear hs
  go_enter Tryz.func10, Tryz.ntmps10
  go_wp2_with fail
  (try simp only [Exit.inBlock, Exit.then])
  exact bodyPost_ret (results_pf (z := .int .i64 4) (x := .int .i64 65536) rfl rfl rfl rfl HB.out) rfl ⟨HG.out, .inl ⟨4, 65536, by decide, .inl ⟨Hs.out, rfl, rfl⟩, rfl⟩⟩
theorem parse7 (s : ByteArray) (W : World) : Calls Tryz.prog 7 #[.string s] W (ParQ W s (schP s.data.toList)) := by
  by_cases hs : s.size ≤ 65536
  · exact parse7_short s W hs
  exact parse7_long s W hs
theorem parseField10 (s : ByteArray) (W : World) : Calls Tryz.prog 10 #[.string s] W (PfQ W s) := by
  by_cases hs : s.size ≤ 65536
  · exact parseField10_short s W hs
  exact parseField10_long s W hs
theorem bad_one {s : ByteArray} {r : RSch} {er er' at_ at' : Int} (h : ParBad s r er at_) (h' : ParBad s r er' at') : er = er' ∧ at_ = at' := by
  rcases h with ⟨a, rfl, rfl⟩ | ⟨a, o, ho, rfl, rfl⟩ | ⟨a, l, ns, a1, g, hw, h⟩ <;> rcases h' with ⟨b, rfl, rfl⟩ | ⟨b, o', ho', rfl, rfl⟩ | ⟨b, l', ns', a1', g', hw', h'⟩
  · exact ⟨rfl, rfl⟩
  · omega
  · omega
  · omega
  · rw [ho] at ho'; cases ho'; exact ⟨rfl, rfl⟩
  · rw [ho] at hw'; cases hw'
  · omega
  · rw [hw] at ho'; cases ho'
  rw [hw] at hw'
  cases hw'
  rcases h with ⟨h1, rfl, rfl⟩ | ⟨h1, L, x, h2, h3, h4, rfl, rfl⟩ <;> rcases h' with ⟨k1, rfl, rfl⟩ | ⟨k1, L', x', k2, k3, k4, rfl, rfl⟩
  · exact ⟨rfl, rfl⟩
  · exact absurd k1 h1
  · exact absurd h1 k1
  have f1 : FaultIs (listsE l.length ns) (nodes (D0 + 1) l [] false) (wrongE x L.length (tkL L)) x.path 0 := .inr (.inr ⟨h1, L, x, h2, h3, h4, rfl, rfl, rfl⟩)
  have f2 : FaultIs (listsE l.length ns) (nodes (D0 + 1) l [] false) (wrongE x' L'.length (tkL L')) x'.path 0 := .inr (.inr ⟨h1, L', x', k2, k3, k4, rfl, rfl, rfl⟩)
  obtain ⟨e1, e2, _⟩ := f1.one f2
  have w1 := (way_of h2).2
  have w2 := (way_of k2).2
  rw [e2, w2] at w1
  exact ⟨e1, by rw [w1]⟩
theorem bad_no {s : ByteArray} {r : RSch} {er at_ : Int} {l : List FT} {ns : List (ByteArray × ByteArray)} {a : Nat} {g : List Nat} (h : ParBad s r er at_) (hs : s.size ≤ 65536) (hw : whP s.data.toList r (0, []) = .ok ((l, ns), (a, g))) (hE : (listsE l.length ns).1 = 0) (hA : AllR (nodes (D0 + 1) l [] false)) : False := by
  rcases h with ⟨h1, _⟩ | ⟨_, o, h1, _⟩ | ⟨_, l', ns', a', g', h1, h2⟩
  · omega
  · rw [hw] at h1; cases h1
  rw [hw] at h1
  cases h1
  rcases h2 with ⟨h2, _⟩ | ⟨_, L, x, h2, _, h3, _⟩
  · exact h2 hE
  exact h3 (hA.pre h2)
theorem both_parse {W1 U1 W2 U2 : World} {s : ByteArray} {r : RSch} {e1 e2 : Ending} (h1 : ParQ W1 s r e1 U1) (g : Gr U1 W2) (h2 : ParQ W2 s r e2 U2) :
    Gr W1 U1 ∧ Gr W2 U2 ∧ ∃ (er at_ : Int) (fo no eo mo : Option Addr) (nf fc nn nc ec mc : Nat), e1 = .returned (.tuple #[.agg #[.slice fo nf fc, .slice no nn nc], .int .i64 er, .int .i64 at_]) ∧ e2 = .returned (.tuple #[.agg #[.slice eo nf ec, .slice mo nn mc], .int .i64 er, .int .i64 at_]) ∧ Ans 8 #[.agg #[.slice fo nf fc, .slice no nn nc], .agg #[.slice eo nf ec, .slice mo nn mc]] true U2 := by
  refine ⟨h1.1, h2.1, ?_⟩
  have g2 : Gr U1 U2 := g.trans h2.1 fun _ _ h => h
  rcases h1.2 with ⟨er, at_, hne, hb, rfl⟩ | ⟨l, ns, a, q, fo, fc, no, nc, k1, k2, k3, k4, k5, rfl, k7, k8, k9⟩ <;> rcases h2.2 with ⟨er', at', hne', hb', rfl⟩ | ⟨l', ns', a', q', fo', fc', no', nc', m1, m2, m3, m4, m5, rfl, m7, m8, m9⟩
  · obtain ⟨rfl, rfl⟩ := bad_one hb hb'
    refine ⟨er, at_, none, none, none, none, 0, 0, 0, 0, 0, 0, rfl, rfl, ?_⟩
    have hF := eqFields_any (fun _ => False) 0 U2 none none 0 0 [] [] rfl rfl (Nat.le_refl _) (Nat.le_refl _) (fun _ h => h.elim)
    rw [sameLs_refl] at hF
    exact eqSchema8 (ns := []) hF ⟨by simp [big], fun h => absurd rfl h⟩ ⟨by simp [big], fun h => absurd rfl h⟩
  · exact (bad_no hb m1 m2 m3 m4).elim
  · exact (bad_no hb' k1 k2 k3 k4).elim
  rw [k2] at m2
  cases m2
  refine ⟨0, 0, fo, no, fo', no', l.length, fc, ns.length, nc, fc', nc', rfl, rfl, ?_⟩
  have hF := eqFields_any (fun z => z < U2.heap.size) (D0 + 1) U2 fo fo' fc fc' l l ((k8.kept fun z hz => g2.block z hz.2 id).mono fun z hz => Nat.lt_of_lt_of_le hz.2 g2.size) (m8.mono fun z hz => hz.2) k7 m7 (fun _ h => h)
  rw [sameLs_refl] at hF
  exact eqSchema8 (ns := ns) hF ((notes_of k9 k5).gr g2) (notes_of m9 k5)
theorem both_field {W1 U1 W2 U2 : World} {s : ByteArray} {e1 e2 : Ending} (h1 : PfQ W1 s e1 U1) (g : Gr U1 W2) (h2 : PfQ W2 s e2 U2) :
    Gr W1 U1 ∧ Gr W2 U2 ∧ ∃ (er at_ : Int) (x y : ByteArray) (b1 b2 : Bool) (k1 d1 i1 x1 k2 d2 i2 x2 : Int) (fo eo : Option Addr) (nf fc ng ec : Nat), e1 = .returned (.tuple #[.agg #[.string x, .bool b1, .int .i64 k1, .int .i64 d1, .int .i64 i1, .int .i64 x1, .slice fo nf fc], .int .i64 er, .int .i64 at_]) ∧ e2 = .returned (.tuple #[.agg #[.string y, .bool b2, .int .i64 k2, .int .i64 d2, .int .i64 i2, .int .i64 x2, .slice eo ng ec], .int .i64 er, .int .i64 at_]) ∧
      Ans 11 #[.agg #[.string x, .bool b1, .int .i64 k1, .int .i64 d1, .int .i64 i1, .int .i64 x1, .slice fo nf fc], .agg #[.string y, .bool b2, .int .i64 k2, .int .i64 d2, .int .i64 i2, .int .i64 x2, .slice eo ng ec]] true U2 := by
  refine ⟨h1.1, h2.1, ?_⟩
  have g2 : Gr U1 U2 := g.trans h2.1 fun _ _ h => h
  have hE : (listsE ([()] : List Unit).length ([] : List (ByteArray × ByteArray))).1 = 0 := by decide
  rcases h1.2 with ⟨er, at_, hne, hb, rfl⟩ | ⟨f, a, q, ko, kc, k1, k2, k3, rfl, k7, k8⟩ <;> rcases h2.2 with ⟨er', at', hne', hb', rfl⟩ | ⟨f', a', q', ko', kc', m1, m2, m3, rfl, m7, m8⟩
  · obtain ⟨rfl, rfl⟩ := bad_one hb hb'
    refine ⟨er, at_, ⟨#[]⟩, ⟨#[]⟩, false, false, 0, 0, 0, 0, 0, 0, 0, 0, none, none, 0, 0, 0, 0, rfl, rfl, ?_⟩
    have hF := eqField_any (fun _ => False) 0 U2 (.mk ⟨#[]⟩ false 0 0 0 0 []) (.mk ⟨#[]⟩ false 0 0 0 0 []) none none 0 0 rfl rfl (Nat.le_refl _) (Nat.le_refl _) (fun _ h => h.elim)
    rw [sameFd_refl] at hF
    exact hF
  · exact (bad_no hb m1 m2 hE m3).elim
  · exact (bad_no hb' k1 k2 hE k3).elim
  rw [k2] at m2
  cases m2
  refine ⟨0, 0, f.name, f.name, f.nul, f.nul, f.kind, f.width, f.id, f.index, f.kind, f.width, f.id, f.index, ko, ko', f.kids.length, kc, f.kids.length, kc', rfl, rfl, ?_⟩
  have hF := eqField_any (fun z => z < U2.heap.size) D0 U2 f f ko ko' kc kc' ((k8.kept fun z hz => g2.block z hz.2 id).mono fun z hz => Nat.lt_of_lt_of_le hz.2 g2.size) (m8.mono fun z hz => hz.2) k7 m7 (fun _ h => h)
  rw [sameFd_refl] at hF
  exact hF
def StrsAt (W : World) (lo : Option Addr) (l : List ByteArray) : Prop := l ≠ [] → ∃ b o, lo = some ⟨b, o, none⟩ ∧ ∀ i (h : i < l.length), W.cell? ⟨b, o + i, none⟩ = some (.string l[i])
theorem PfQ.form {V w1 : World} {s : ByteArray} {e : Ending} (h : PfQ V s e w1) : ∃ (x : ByteArray) (b1 : Bool) (k1 d1 i1 x1 : Int) (fo : Option Addr) (nf fc : Nat) (er at_ : Int), e = .returned (.tuple #[.agg #[.string x, .bool b1, .int .i64 k1, .int .i64 d1, .int .i64 i1, .int .i64 x1, .slice fo nf fc], .int .i64 er, .int .i64 at_]) := by
  rcases h.2 with ⟨er, at_, _, _, rfl⟩ | ⟨f, a, g, ko, kc, _, _, _, rfl, _⟩
  · exact ⟨_, _, _, _, _, _, _, _, _, _, _, rfl⟩
  exact ⟨_, _, _, _, _, _, _, _, _, _, _, rfl⟩
theorem parses_any (w : World) (l : List ByteArray) (ao : Option Addr) (ca : Nat) (hT : Tab w) (hS : StrsAt w ao l) (hl : l.length ≤ big) : Calls Tryz.prog 3 #[.slice ao l.length ca] w fun e w' => e = .returned (.bool true) ∧ Gr w w' := by
  have HA := hidP (awake_any w hT)
  have HT := hidP hT
  have HS := hidP hS
  obtain ⟨n, hn⟩ : ∃ n, n = l.length := ⟨_, rfl⟩
  rw [← hn] at hl ⊢
  have Hn := hidP hn
  have hl2 : n ≤ 1000000000000 := hl
  clear hT hS hn hl
  go_enter Tryz.func3, Tryz.ntmps3
  go_wp2_with (go_at_call 5; refine Hid.out ?_)
  unfold Hid
  refine Calls.mono HA.out ?_
  rintro e W0 ⟨rfl, g0⟩
  have HG0 := hidP g0
  clear HA g0
  go_wp2_with fail
  go_loopw [17] (fun i wr => ∃ k : Nat, k ≤ n ∧ i = .int .i64 (k : Int) ∧ Hid (Gr w wr)) (fun i _ => n - (intOf i).toNat)
  case atStart => exact ⟨0, by omega, rfl, HG0.out⟩
  case round =>
    obtain ⟨k, hk, rfl, HK⟩ := hrel
    by_cases hlt : k < n
    · have hkl : k < l.length := by have := Hn.out; omega
      obtain ⟨pb, po, rfl, hpc⟩ := HS.out (fun e => by subst e; simp at hkl)
      have hc := HK.out.cell' (hpc k hkl) id
      obtain ⟨s, hs⟩ : ∃ s, s = l[k]'hkl := ⟨_, rfl⟩
      rw [← hs] at hc
      have hltI : (k : Int) < (n : Int) := by omega
      have H6 := hidP (parse5 s wr (HT.out.gr HK.out))
      clear hpc hs
      go_wp2_with (go_at_call 6; refine Hid.out ?_)
      unfold Hid
      refine Calls.mono H6.out ?_
      intro e1 U1 hq1
      have HQ1 := hidP hq1
      obtain ⟨fo, nf, fc, no, nn, nc, er, at_, rfl⟩ := hq1.form
      clear hq1 H6 hc
      have g1 := gr_alloc U1 (.cells #[.slice fo nf fc, .slice no nn nc] 27)
      have h1 := heap_alloc_new U1 (.cells #[.slice fo nf fc, .slice no nn nc] 27)
      go_wp2_with (go_at_call 7; refine Hid.out ?_)
      unfold Hid
      obtain ⟨K1, hK1⟩ : ∃ K1, K1 = U1.heap.size := ⟨_, rfl⟩
      rw [← hK1] at h1 ⊢
      have HG1 := hidP g1
      have HB1 := hidP h1
      clear g1 h1 hK1
      generalize U1.alloc (.cells #[.slice fo nf fc, .slice no nn nc] 27) = A1 at HG1 HB1 ⊢
      refine Calls.mono (parse7 s A1) ?_
      intro e2 U2 hq2
      obtain ⟨gw1, gw2, er', at', fo', no', eo, mo, nf', fc', nn', nc', ec, mc, e1, rfl, hans⟩ := both_parse HQ1.out HG1.out hq2
      cases e1
      have g2 := gr_alloc U2 (.cells #[.slice eo nf ec, .slice mo nn mc] 27)
      have h2 := heap_alloc_new U2 (.cells #[.slice eo nf ec, .slice mo nn mc] 27)
      have b1 := (g2.block K1 (Nat.lt_of_lt_of_le (lt_of_heap HB1.out) gw2.size) id).trans ((gw2.block K1 (lt_of_heap HB1.out) id).trans HB1.out)
      have c10 := cell_at b1 0 rfl
      have c11 := cell_at b1 1 rfl
      have c20 := cell_at h2 0 rfl
      have c21 := cell_at h2 1 rfl
      have HG2 : Hid (Gr w (U2.alloc (.cells #[.slice eo nf ec, .slice mo nn mc] 27))) := (((HK.out.trans gw1 fun _ _ h => h).trans HG1.out fun _ _ h => h).trans gw2 fun _ _ h => h).trans g2 fun _ _ h => h
      have HAns := hidP (hans _ g2)
      clear g2 h2 b1 hq2 gw1 gw2 hans HQ1 HG1 HB1
      go_wp2_with (go_at_call 8; refine Hid.out ?_)
      unfold Hid
      clear c10 c11 c20 c21
      refine Calls.mono HAns.out ?_
      rintro e U3 ⟨rfl, g3⟩
      have HG3 := hidP (HG2.out.trans g3 fun _ _ h => h)
      clear g3 HG2 HAns
      have H9 := hidP (parseField9_any s U3 (HT.out.gr HG3.out))
      go_wp2_with (go_at_call 9; refine Hid.out ?_)
      unfold Hid
      refine Calls.mono H9.out ?_
      intro e1 U4 hq1
      have HQ1 := hidP hq1
      obtain ⟨x, b1, k1, d1, i1, x1, fo, nf, fc, er, at_, rfl⟩ := hq1.form
      clear hq1 H9
      have g4 := gr_alloc U4 (.cells #[.string x, .bool b1, .int .i64 k1, .int .i64 d1, .int .i64 i1, .int .i64 x1, .slice fo nf fc] 37)
      have h4 := heap_alloc_new U4 (.cells #[.string x, .bool b1, .int .i64 k1, .int .i64 d1, .int .i64 i1, .int .i64 x1, .slice fo nf fc] 37)
      go_wp2_with (go_at_call 10; refine Hid.out ?_)
      unfold Hid
      obtain ⟨K4, hK4⟩ : ∃ K4, K4 = U4.heap.size := ⟨_, rfl⟩
      rw [← hK4] at h4 ⊢
      have HG4 := hidP g4
      have HB4 := hidP h4
      clear g4 h4 hK4
      generalize U4.alloc (.cells #[.string x, .bool b1, .int .i64 k1, .int .i64 d1, .int .i64 i1, .int .i64 x1, .slice fo nf fc] 37) = A4 at HG4 HB4 ⊢
      refine Calls.mono (parseField10 s A4) ?_
      intro e2 U5 hq2
      obtain ⟨gw1, gw2, er', at', x', y, b1', b2, k1', d1', i1', x1', k2, d2, i2, x2, fo', eo, nf', fc', ng, ec, e1, rfl, hans⟩ := both_field HQ1.out HG4.out hq2
      cases e1
      have g5 := gr_alloc U5 (.cells #[.string y, .bool b2, .int .i64 k2, .int .i64 d2, .int .i64 i2, .int .i64 x2, .slice eo ng ec] 37)
      have h5 := heap_alloc_new U5 (.cells #[.string y, .bool b2, .int .i64 k2, .int .i64 d2, .int .i64 i2, .int .i64 x2, .slice eo ng ec] 37)
      have b4 := (g5.block K4 (Nat.lt_of_lt_of_le (lt_of_heap HB4.out) gw2.size) id).trans ((gw2.block K4 (lt_of_heap HB4.out) id).trans HB4.out)
      have c40 := cell_at b4 0 rfl
      have c50 := cell_at h5 0 rfl
      have c41 := cell_at b4 1 rfl
      have c51 := cell_at h5 1 rfl
      have c42 := cell_at b4 2 rfl
      have c52 := cell_at h5 2 rfl
      have c43 := cell_at b4 3 rfl
      have c53 := cell_at h5 3 rfl
      have c44 := cell_at b4 4 rfl
      have c54 := cell_at h5 4 rfl
      have c45 := cell_at b4 5 rfl
      have c55 := cell_at h5 5 rfl
      have c46 := cell_at b4 6 rfl
      have c56 := cell_at h5 6 rfl
      have HG5 : Hid (Gr w (U5.alloc (.cells #[.string y, .bool b2, .int .i64 k2, .int .i64 d2, .int .i64 i2, .int .i64 x2, .slice eo ng ec] 37))) := (((HG3.out.trans gw1 fun _ _ h => h).trans HG4.out fun _ _ h => h).trans gw2 fun _ _ h => h).trans g5 fun _ _ h => h
      have HAns := hidP (hans _ g5)
      clear g5 h5 b4 hq2 gw1 gw2 hans HQ1 HG4 HB4 HG3
      go_wp2_with (go_at_call 11; refine Hid.out ?_)
      unfold Hid
      clear c40 c50 c41 c51 c42 c52 c43 c53 c44 c54 c45 c55 c46 c56
      refine Calls.mono HAns.out ?_
      rintro e U6 ⟨rfl, g6⟩
      have HG6 := hidP (HG5.out.trans g6 fun _ _ h => h)
      clear g6 HG5 HAns
      go_wp2_with fail
      go_roundw
      case rel => exact ⟨k + 1, by omega, by simp, HG6.out⟩
      case measure => simp [intOf]; omega
    have hkn : k = n := by omega
    subst hkn
    have HGu := HK
    clear HK
    go_wp2_with fail
    go_ret
    exact ⟨rfl, HGu.out⟩
end Go.Proofs.YtkodgneneiledaaGreatDoor.Kit
