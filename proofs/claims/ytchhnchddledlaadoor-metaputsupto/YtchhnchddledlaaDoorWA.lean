import Derived.Test.YtchhnchddledlaaDoorVZ
namespace Go.Proofs.YtchhnchddledlaaDoor.Kit
open Go.RowKit Go.Shelf Go.Deep
set_option linter.unusedVariables false
attribute [local go_sem] run_store_func

/-! ### the law -/
/-- bytes somewhere in memory -/
def BytesAt (W : World) (ao : Option Addr) (bs : List UInt8) : Prop :=
  bs ≠ [] → ∃ b o, ao = some ⟨b, o, none⟩ ∧ ∀ i (h : i < bs.length), W.cell? ⟨b, o + i, none⟩ = some (.int .u8 (bs[i].toNat : Int))
theorem BytesAt.gr {W W' : World} {ao : Option Addr} {bs : List UInt8} (h : BytesAt W ao bs) (g : Gr W W') : BytesAt W' ao bs := fun hn => by
  obtain ⟨b, o, e, hc⟩ := h hn
  exact ⟨b, o, e, fun j hj => g.cell' (hc j hj) id⟩
theorem bytes_of_own {W : World} {vo : Option Addr} {n vc : Nat} {l : List UInt8} (h : W.ownsRow 0 5 1 (.slice vo n vc) n (bv l)) : BytesAt W vo l := fun hn => by
  have hl : l.length = n := by have := h.1; simpa [bv] using this
  rcases h.2 with ⟨e, h0⟩ | ⟨g, cap, cur, e, _⟩
  · exact absurd (List.eq_nil_of_length_eq_zero (by omega)) hn
  · cases e
    refine ⟨g, 0, rfl, fun j hj => ?_⟩
    rw [Nat.zero_add, h.cellAt j (by omega)]
    simp [bv, hj]
theorem bytes_of_block {W : World} {B : Nat} {l : List UInt8} (h : W.heap[B]? = some (.cells (bv l).toArray 5 (0, 0))) : BytesAt W (some ⟨B, 0, none⟩) l := fun hn => by
  refine ⟨B, 0, rfl, fun j hj => ?_⟩
  simp [World.cell?, h, bv, hj]
set_option maxRecDepth 100000 in
set_option maxHeartbeats 1000000 in
theorem same_bytes {ao bo : Option Addr} {ca cb : Nat} {l : List UInt8} {w : World} (hl : l.length ≤ 1000000000) (ha : BytesAt w ao l) (hb : BytesAt w bo l) :
    Calls Tryd.prog 6 #[.slice ao l.length ca, .slice bo l.length cb] w fun e w' => e = .returned (.bool true) ∧ Gr w w' := by
  have HA := hidM ha
  have HB := hidM hb
  clear ha hb
  obtain ⟨n, hn⟩ : ∃ n, n = l.length := ⟨_, rfl⟩
  rw [← hn] at hl ⊢
  have HN := hidM hn
  clear hn
  go_enter Tryd.func6, Tryd.ntmps6
  go_wp2_with fail
  go_loopw [5] (fun i wr => ∃ k : Nat, k ≤ n ∧ i = .int .i64 k ∧ Hid (Gr w wr)) (fun i _ => n - (intOf i).toNat)
  case atStart => exact ⟨0, Nat.zero_le _, rfl, Keeps.refl _ _⟩
  case round =>
    obtain ⟨k, hk, rfl, HG⟩ := hrel
    by_cases hlt : k < n
    · have hlt' : k < l.length := by rw [← HN.out]; exact hlt
      have hne : l ≠ [] := fun e => by rw [e] at hlt'; simp at hlt'
      obtain ⟨b, o, e1, h1⟩ := HA.out hne
      obtain ⟨b', o', e2, h2⟩ := HB.out hne
      have c1 := HG.out.cell' (h1 k hlt') id
      have c2 := HG.out.cell' (h2 k hlt') id
      obtain ⟨z, hz⟩ : ∃ z : Int, z = (l[k].toNat : Int) := ⟨_, rfl⟩
      rw [← hz] at c1 c2
      subst e1 e2
      clear hz h1 h2 hne hlt' HA HB
      have hi0 : (0 : Int) ≤ (k : Int) := by omega
      have hltI : (k : Int) < (n : Int) := by omega
      go_wp2_with fail
      go_quiet (fail)
      go_wp2_with fail
      go_roundw
      case rel => exact ⟨k + 1, by omega, by simp, HG.out.drewN _⟩
      case measure => simp [intOf]; omega
    · have hltI : ¬ (k : Int) < (n : Int) := by omega
      go_wp2_with fail
      go_ret
      exact ⟨rfl, HG.out⟩

theorem head0 (w : World) (hT : Tab w) : HeadAt (fun _ => False) 0 w none none none none 0 [] [] [] [] :=
  ⟨hT, rfl, Nat.le_refl _, by unfold big; omega, fun b h => h.elim, ⟨by simp [big], fun h => absurd rfl h⟩, ⟨by simp [big], fun h => absurd rfl h⟩, ⟨by simp [big], fun h => absurd rfl h⟩⟩
theorem ok0 : HOk (Yes 0 [] []) 1 0 0 0 false 0 0 [] [] := .inl ⟨rfl, rfl, rfl, rfl, rfl, rfl, rfl, by simp, by simp, by simp, fun i hi => by simp at hi, _, rfl⟩
theorem put0 (w : World) (hT : Tab w) : Calls Tryd.prog 4 #[.agg #[.int .i64 1, .slice none 0 0, .slice none 0 0, .int .i64 0, .bool false, .int .i64 0, .int .i64 0, .slice none 0 0, .slice none 0 0]] w fun e w' => ∃ B, e = .returned (.tuple #[.slice (some ⟨B, 0, none⟩) 8 8, .int .i64 0]) ∧ BytesAt w' (some ⟨B, 0, none⟩) [1, 1, 0, 0, 0, 0, 0, 0] ∧ Gr w w' := by
  have e0 := put4_true (k := 1) (di := 0) (rows := 0) (pr := 0) (dl := false) (cn := 0) (vc := 0) (uc := 0) (head0 w hT) ok0
  simp only [List.length_nil] at e0
  refine Calls.mono e0 ?_
  rintro e w' ⟨B, rfl, -, h2, h3⟩
  exact ⟨B, rfl, bytes_of_block h2, h3⟩
set_option maxRecDepth 100000 in
set_option maxHeartbeats 1000000 in
theorem fixed_true (w : World) (hT : Tab w) : Calls Tryd.prog 7 #[] w fun e w' => e = .returned (.bool true) ∧ Gr w w' := by
  have HP := hidM (put0 w hT)
  clear hT
  go_enter Tryd.func7, Tryd.ntmps7
  go_wp2_with (go_at_call 4; refine Hid.out ?_)
  unfold Hid
  refine Calls.mono HP.out ?_
  rintro e V ⟨B, rfl, h1, h2⟩
  have HB := hidM h1
  have HG := hidM h2
  clear h1 h2 HP
  have h6 : Hid (Calls Tryd.prog 6 #[.slice (some ⟨B, 0, none⟩) 8 8, .slice (some ⟨V.heap.size, 0, none⟩) 8 8] (V.alloc (.cells #[.int .u8 1, .int .u8 1, .int .u8 0, .int .u8 0, .int .u8 0, .int .u8 0, .int .u8 0, .int .u8 0] 5)) fun e w' => e = .returned (.bool true) ∧ Gr (V.alloc (.cells #[.int .u8 1, .int .u8 1, .int .u8 0, .int .u8 0, .int .u8 0, .int .u8 0, .int .u8 0, .int .u8 0] 5)) w') :=
    same_bytes (l := [1, 1, 0, 0, 0, 0, 0, 0]) (by decide) (HB.out.gr (gr_alloc _ _)) (bytes_of_block (heap_alloc_new V _))
  go_wp2_with (go_at_call 6; refine Hid.out ?_)
  unfold Hid
  refine Calls.mono h6.out ?_
  rintro e V2 ⟨rfl, hg⟩
  have HG2 := hidM (HG.out.trans ((gr_alloc V _).trans hg (fun _ _ h => h)) (fun _ _ h => h))
  clear hg
  go_wp2_with fail
  go_ret
  exact ⟨rfl, HG2.out⟩

set_option maxRecDepth 100000 in
set_option maxHeartbeats 4000000 in
theorem puts_walk {k di rows pr : Int} {dl : Bool} {fo no vo uo : Option Addr} {nf nn nv nu cf cn vc uc : Nat} {w : World} (hT : Tab w) (er : Int) (l : List UInt8) (hl : l.length ≤ 1000000)
    (h4 : ∀ W, Gr w W → Calls Tryd.prog 4 #[.agg #[.int .i64 k, .slice fo nf cf, .slice no nn cn, .int .i64 di, .bool dl, .int .i64 rows, .int .i64 pr, .slice vo nv vc, .slice uo nu uc]] W fun e w' => ∃ so sc, e = .returned (.tuple #[.slice so l.length sc, .int .i64 er]) ∧ BytesAt w' so l ∧ Gr W w')
    (h5 : ∀ W, Gr w W → Calls Tryd.prog 5 #[.agg #[.int .i64 k, .slice fo nf cf, .slice no nn cn, .int .i64 di, .bool dl, .int .i64 rows, .int .i64 pr, .slice vo nv vc, .slice uo nu uc]] W fun e w' => ∃ so sc, e = .returned (.tuple #[.slice so l.length sc, .int .i64 er]) ∧ BytesAt w' so l ∧ Gr W w') :
    Calls Tryd.prog 3 #[.agg #[.int .i64 k, .slice fo nf cf, .slice no nn cn, .int .i64 di, .bool dl, .int .i64 rows, .int .i64 pr, .slice vo nv vc, .slice uo nu uc]] w fun e w' => e = .returned (.bool true) ∧ Gr w w' := by
  have hbx := World.alloc_heap_new w (.cells #[.int .i64 k, .slice fo nf cf, .slice no nn cn, .int .i64 di, .bool dl, .int .i64 rows, .int .i64 pr, .slice vo nv vc, .slice uo nu uc] 29)
  obtain ⟨p0, p1, p2, p3, p4, p5, p6, p7, p8⟩ := ce9 hbx
  have HT := hidM hT
  have H4 := hidM h4
  have H5 := hidM h5
  have HL := hidM hl
  clear hT h4 h5 hbx hl
  go_enter Tryd.func3, Tryd.ntmps3
  go_wp2_with (go_at_call 4; refine Hid.out ?_)
  unfold Hid
  refine Calls.mono (H4.out _ (gr_alloc w _)) ?_
  rintro e V ⟨so, sc, rfl, hb, hg⟩

  have t0 := hg.cell' p0 id
  have t1 := hg.cell' p1 id
  have t2 := hg.cell' p2 id
  have t3 := hg.cell' p3 id
  have t4 := hg.cell' p4 id
  have t5 := hg.cell' p5 id
  have t6 := hg.cell' p6 id
  have t7 := hg.cell' p7 id
  have t8 := hg.cell' p8 id
  have HB := hidM hb
  have HG := hidM ((gr_alloc w _).trans hg (fun _ _ h => h))
  clear hb hg p0 p1 p2 p3 p4 p5 p6 p7 p8
  go_wp2_with (go_at_call 5; refine Hid.out ?_)
  unfold Hid
  refine Calls.mono (H5.out _ HG.out) ?_
  rintro e V2 ⟨so2, sc2, rfl, hb2, hg2⟩
  have HG2 := hidM (HG.out.trans hg2 (fun _ _ h => h))
  have h6 := hidM (same_bytes (ca := sc) (cb := sc2) (by have := HL.out; omega) (HB.out.gr hg2) hb2)
  clear hb2 hg2 t0 t1 t2 t3 t4 t5 t6 t7 t8
  go_wp2_with (go_at_call 6; refine Hid.out ?_)
  unfold Hid
  refine Calls.mono h6.out ?_
  rintro e V3 ⟨rfl, hg3⟩
  have HG3 := hidM (HG2.out.trans hg3 (fun _ _ h => h))
  clear hg3
  go_wp2_with (go_at_call 7; refine Hid.out ?_)
  unfold Hid
  refine Calls.mono (fixed_true V3 (HT.out.gr HG3.out)) ?_
  rintro e V4 ⟨rfl, hg4⟩
  have HG4 := hidM (HG3.out.trans hg4 (fun _ _ h => h))
  clear hg4
  go_wp2_with fail
  go_ret
  exact ⟨rfl, HG4.out⟩

theorem puts_any {S : Nat → Prop} {D : Nat} {k di rows pr : Int} {dl : Bool} {fo no vo uo : Option Addr} {cf cn vc uc : Nat} {fs : List FT} {ns : List (ByteArray × ByteArray)} {nds : List (Int × Int)} {sls : List (Int × Int × Int)} {w : World} (h : HeadAt S D w fo no vo uo cf fs ns nds sls) :
    Calls Tryd.prog 3 #[.agg #[.int .i64 k, .slice fo fs.length cf, .slice no ns.length cn, .int .i64 di, .bool dl, .int .i64 rows, .int .i64 pr, .slice vo nds.length vc, .slice uo sls.length uc]] w fun e w' => e = .returned (.bool true) ∧ Gr w w' := by
  by_cases hok : HOk (Yes D fs ns) k fs.length ns.length di dl rows pr nds sls
  · refine puts_walk h.tab 0 (wholeB D k fs ns di dl rows pr nds sls) (by have := wholeB_len h.row.deep hok; omega) (fun W g => ?_) (fun W g => ?_)
    · refine Calls.mono (put4_true (h.gr g) hok) ?_
      rintro e w' ⟨B, rfl, -, h2, h3⟩
      exact ⟨_, _, rfl, bytes_of_block h2, h3⟩
    · refine Calls.mono (put5_true (h.gr g) hok) ?_
      rintro e w' ⟨so, sc, n, rfl, hb⟩
      have := hb.len
      subst this
      exact ⟨so, sc, rfl, bytes_of_own hb.own, hb.gr⟩
  · refine puts_walk h.tab 50 [] (by simp) (fun W g => ?_) (fun W g => ?_)
    · refine Calls.mono (put4_false (h.gr g) hok) ?_
      rintro e w' ⟨rfl, h3⟩
      exact ⟨none, 0, rfl, fun hn => absurd rfl hn, h3⟩
    · refine Calls.mono (put5_false (h.gr g) hok) ?_
      rintro e w' ⟨rfl, h3⟩
      exact ⟨none, 0, rfl, fun hn => absurd rfl hn, h3⟩

end Go.Proofs.YtchhnchddledlaaDoor.Kit
