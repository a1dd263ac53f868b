import Derived.Test.YtdffjdlpbfcikaaDoorVZ
namespace Go.Proofs.YtdffjdlpbfcikaaDoor.Kit
open Go.RowKit Go.Shelf Go.Deep
set_option linter.unusedVariables false
attribute [local go_sem] run_store_func

/-! ### the law -/
/-- bytes somewhere in memory -/
def BytesAt (W : World) (ao : Option Addr) (bs : List UInt8) : Prop :=
  bs ≠ [] → ∃ b o, ao = some ⟨b, o, none⟩ ∧ ∀ i (h : i < bs.length), W.cell? ⟨b, o + i, none⟩ = some (.int .u8 (bs[i].toNat : Int))
theorem BytesAt.gr {W W' : World} {ao : Option Addr} {bs : List UInt8} (h : BytesAt W ao bs) (g : Gr W W') : BytesAt W' ao bs := fun hn => by
  obtain ⟨b, o, e, hc⟩ := h hn
  exact ⟨b, o, e, fun j hj => g.cell' (hc j hj) id⟩
theorem bytes_of_own {W : World} {vo : Option Addr} {n vc : Nat} {l : List UInt8} (h : W.ownsRow 0 5 1 (.slice vo n vc) n (bv l)) : BytesAt W vo l := fun hn => by
  have hl : l.length = n := by have := h.1; simpa [bv] using this
  rcases h.2 with ⟨e, h0⟩ | ⟨g, cap, cur, e, _⟩
  · exact absurd (List.eq_nil_of_length_eq_zero (by omega)) hn
  · cases e
    refine ⟨g, 0, rfl, fun j hj => ?_⟩
    rw [Nat.zero_add, h.cellAt j (by omega)]
    simp [bv, hj]
theorem bytes_of_block {W : World} {B : Nat} {l : List UInt8} (h : W.heap[B]? = some (.cells (bv l).toArray 5 (0, 0))) : BytesAt W (some ⟨B, 0, none⟩) l := fun hn => by
  refine ⟨B, 0, rfl, fun j hj => ?_⟩
  simp [World.cell?, h, bv, hj]
set_option maxRecDepth 100000 in
set_option maxHeartbeats 1000000 in
theorem same_bytes {ao bo : Option Addr} {ca cb : Nat} {l : List UInt8} {w : World} (hl : l.length ≤ 1000000000) (ha : BytesAt w ao l) (hb : BytesAt w bo l) :
    Calls Tryd.prog 12 #[.slice ao l.length ca, .slice bo l.length cb] w fun e w' => e = .returned (.bool true) ∧ Gr w w' := by
  have HA := hidM ha
  have HB := hidM hb
  clear ha hb
  obtain ⟨n, hn⟩ : ∃ n, n = l.length := ⟨_, rfl⟩
  rw [← hn] at hl ⊢
  have HN := hidM hn
  clear hn
  go_enter Tryd.func12, Tryd.ntmps12
  go_wp2_with fail
  go_loopw [5] (fun i wr => ∃ k : Nat, k ≤ n ∧ i = .int .i64 k ∧ Hid (Gr w wr)) (fun i _ => n - (intOf i).toNat)
  case atStart => exact ⟨0, Nat.zero_le _, rfl, Keeps.refl _ _⟩
  case round =>
    obtain ⟨k, hk, rfl, HG⟩ := hrel
    by_cases hlt : k < n
    · have hlt' : k < l.length := by rw [← HN.out]; exact hlt
      have hne : l ≠ [] := fun e => by rw [e] at hlt'; simp at hlt'
      obtain ⟨b, o, e1, h1⟩ := HA.out hne
      obtain ⟨b', o', e2, h2⟩ := HB.out hne
      have c1 := HG.out.cell' (h1 k hlt') id
      have c2 := HG.out.cell' (h2 k hlt') id
      obtain ⟨z, hz⟩ : ∃ z : Int, z = (l[k].toNat : Int) := ⟨_, rfl⟩
      rw [← hz] at c1 c2
      subst e1 e2
      clear hz h1 h2 hne hlt' HA HB
      have hi0 : (0 : Int) ≤ (k : Int) := by omega
      have hltI : (k : Int) < (n : Int) := by omega
      go_wp2_with fail
      go_quiet (fail)
      go_wp2_with fail
      go_roundw
      case rel => exact ⟨k + 1, by omega, by simp, HG.out.drewN _⟩
      case measure => simp [intOf]; omega
    · have hltI : ¬ (k : Int) < (n : Int) := by omega
      go_wp2_with fail
      go_ret
      exact ⟨rfl, HG.out⟩

theorem head0 (w : World) (hT : Tab w) : HeadAt (fun _ => False) 0 w none none none none 0 [] [] [] [] :=
  ⟨hT, rfl, Nat.le_refl _, by unfold big; omega, fun b h => h.elim, ⟨by simp [big], fun h => absurd rfl h⟩, ⟨by simp [big], fun h => absurd rfl h⟩, ⟨by simp [big], fun h => absurd rfl h⟩⟩
theorem ok0 : HOk (Yes 0 [] []) 1 0 0 0 false 0 0 [] [] := .inl ⟨rfl, rfl, rfl, rfl, rfl, rfl, rfl, by simp, by simp, by simp, fun i hi => by simp at hi, _, rfl⟩
theorem put0 (w : World) (hT : Tab w) : Calls Tryd.prog 11 #[.agg #[.int .i64 1, .slice none 0 0, .slice none 0 0, .int .i64 0, .bool false, .int .i64 0, .int .i64 0, .slice none 0 0, .slice none 0 0]] w fun e w' => ∃ B, e = .returned (.tuple #[.slice (some ⟨B, 0, none⟩) 8 8, .int .i64 0]) ∧ BytesAt w' (some ⟨B, 0, none⟩) [1, 1, 0, 0, 0, 0, 0, 0] ∧ Gr w w' := by
  have e0 := put4_true (k := 1) (di := 0) (rows := 0) (pr := 0) (dl := false) (cn := 0) (vc := 0) (uc := 0) (head0 w hT) ok0
  simp only [List.length_nil] at e0
  refine Calls.mono e0 ?_
  rintro e w' ⟨B, rfl, -, h2, h3⟩
  exact ⟨B, rfl, bytes_of_block h2, h3⟩
set_option maxRecDepth 100000 in
set_option maxHeartbeats 1000000 in
theorem fixed_true (w : World) (hT : Tab w) : Calls Tryd.prog 10 #[] w fun e w' => e = .returned (.bool true) ∧ Gr w w' := by
  have HP := hidM (put0 w hT)
  clear hT
  go_enter Tryd.func10, Tryd.ntmps10
  go_wp2_with (go_at_call 11; refine Hid.out ?_)
  unfold Hid
  refine Calls.mono HP.out ?_
  rintro e V ⟨B, rfl, h1, h2⟩
  have HB := hidM h1
  have HG := hidM h2
  clear h1 h2 HP
  have h6 : Hid (Calls Tryd.prog 12 #[.slice (some ⟨B, 0, none⟩) 8 8, .slice (some ⟨V.heap.size, 0, none⟩) 8 8] (V.alloc (.cells #[.int .u8 1, .int .u8 1, .int .u8 0, .int .u8 0, .int .u8 0, .int .u8 0, .int .u8 0, .int .u8 0] 5)) fun e w' => e = .returned (.bool true) ∧ Gr (V.alloc (.cells #[.int .u8 1, .int .u8 1, .int .u8 0, .int .u8 0, .int .u8 0, .int .u8 0, .int .u8 0, .int .u8 0] 5)) w') :=
    same_bytes (l := [1, 1, 0, 0, 0, 0, 0, 0]) (by decide) (HB.out.gr (gr_alloc _ _)) (bytes_of_block (heap_alloc_new V _))
  go_wp2_with (go_at_call 12; refine Hid.out ?_)
  unfold Hid
  refine Calls.mono h6.out ?_
  rintro e V2 ⟨rfl, hg⟩
  have HG2 := hidM (HG.out.trans ((gr_alloc V _).trans hg (fun _ _ h => h)) (fun _ _ h => h))
  clear hg
  go_wp2_with fail
  go_ret
  exact ⟨rfl, HG2.out⟩

end Go.Proofs.YtdffjdlpbfcikaaDoor.Kit
