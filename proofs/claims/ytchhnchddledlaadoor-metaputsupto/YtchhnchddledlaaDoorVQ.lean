import Derived.Test.YtchhnchddledlaaDoorVP
namespace Go.Proofs.YtchhnchddledlaaDoor.Kit
open Go.RowKit Go.Shelf Go.Deep
set_option linter.unusedVariables false
attribute [local go_sem] run_store_func

/-! ### the pen's fields -/
/-- the pen's box and a field's box stay while the ink grows -/
structure QF (w W V : World) (K S F : Nat) (c : Array Value) (t : Nat) (bs : List UInt8) : Prop where
  ink : InkAt w V K bs
  ku : KU K W V
  ne : S ≠ K
  ne1 : F ≠ K
  pen : V.heap[S]? = some (.cells #[.pointer (some ⟨K, 0, none⟩)] 40)
  box : V.heap[F]? = some (.cells c t)
theorem QF.next {w W V V' : World} {K S F t : Nat} {c : Array Value} {bs bs' : List UInt8} (h : QF w W V K S F c t bs) (i : InkAt w V' K bs') (u : KU K V V') (ht : t ≠ 5) : QF w W V' K S F c t bs' :=
  ⟨i, h.ku.trans u, h.ne, h.ne1, u.2 _ _ _ h.pen (by decide) h.ne, u.2 _ _ _ h.box ht h.ne1⟩
theorem QF.first {w W V : World} {K S t : Nat} {bs : List UInt8} (i : InkAt w V K bs) (u : KU K W V) (ne : S ≠ K) (pen : V.heap[S]? = some (.cells #[.pointer (some ⟨K, 0, none⟩)] 40)) (c : Array Value) : QF w W (V.alloc (.cells c t)) K S V.heap.size c t bs := by
  obtain ⟨vo, n, vc, h1, -⟩ := i.ex
  have hlt := lt_of_heap h1
  have g := gr_alloc V (.cells c t)
  exact ⟨i.kept g, u.trans (KU.gr g), ne, by omega, (g.block _ (lt_of_heap pen) id).trans pen, heap_alloc_new V _⟩
theorem QF.penc {w W V : World} {K S F t : Nat} {c : Array Value} {bs : List UInt8} (h : QF w W V K S F c t bs) : V.cell? ⟨S, 0, none⟩ = some (.pointer (some ⟨K, 0, none⟩)) := by simp [World.cell?, h.pen]
def fB (kb : FT → List UInt8) (f : FT) : List UInt8 := txtB f.name 1 ++ flgB f.nul ++ (typB f ++ kb f)
theorem hdB_typ (f : FT) : hdB f = txtB f.name 1 ++ flgB f.nul ++ typB f := by simp [hdB, typB, List.append_assoc]
set_option maxRecDepth 100000 in
set_option maxHeartbeats 4000000 in
theorem penFields_walk {w W : World} {K : Nat} {bs : List UInt8} (kb : FT → List UInt8) (l : List FT) (ao : Option Addr) (ca : Nat) (h : InkAt w W K bs) (hlen : bs.length + (l.flatMap (fB kb)).length ≤ 65536) (hb : l.length ≤ 1000000000000)
    (hk : l ≠ [] → ∃ b o, ao = some ⟨b, o, none⟩ ∧ ∀ i (h : i < l.length), ∃ ao' ca', CellsAt w b (o + i * 7) l[i] ao' ca' ∧ l[i].name.size ≤ 48 ∧ ∀ V bs', InkAt w V K bs' → bs'.length + (typB l[i] ++ kb l[i]).length ≤ 65536 → Calls Tryd.prog 42 #[.agg #[.pointer (some ⟨K, 0, none⟩)], .agg #[.int .i64 l[i].kind, .int .i64 l[i].width, .int .i64 l[i].id, .int .i64 l[i].index, .slice ao' l[i].kids.length ca']] V fun e w' => e = .returned (.tuple #[]) ∧ InkAt w w' K (bs' ++ (typB l[i] ++ kb l[i])) ∧ KU K V w') :
    Calls Tryd.prog 31 #[.agg #[.pointer (some ⟨K, 0, none⟩)], .slice ao l.length ca] W fun e w' => e = .returned (.tuple #[]) ∧ InkAt w w' K (bs ++ l.flatMap (fB kb)) ∧ KU K W w' := by
  have HK := hidM hk
  have HLen := hidM hlen
  obtain ⟨S, hS⟩ : ∃ S, S = W.heap.size := ⟨_, rfl⟩
  have HS0 : Hid (InkAt w (W.alloc (.cells #[.pointer (some ⟨K, 0, none⟩)] 40)) K bs ∧ KU K W (W.alloc (.cells #[.pointer (some ⟨K, 0, none⟩)] 40)) ∧ (W.alloc (.cells #[.pointer (some ⟨K, 0, none⟩)] 40)).heap[S]? = some (.cells #[.pointer (some ⟨K, 0, none⟩)] 40)) :=
    ⟨h.kept (gr_alloc W _), KU.gr (gr_alloc W _), by rw [hS]; exact heap_alloc_new W _⟩
  have HNe : Hid (S ≠ K) := by obtain ⟨vo, n, vc, h1, -⟩ := h.ex; have := lt_of_heap h1; exact fun e => by omega
  clear hk hlen h
  go_enter Tryd.func31, Tryd.ntmps31
  go_wp2_with fail
  rw [← hS]
  go_loopw [8] (fun i wr => ∃ j : Nat, j ≤ l.length ∧ i = .int .i64 (j : Int) ∧ Hid (InkAt w wr K (bs ++ (l.take j).flatMap (fB kb)) ∧ KU K W wr ∧ wr.heap[S]? = some (.cells #[.pointer (some ⟨K, 0, none⟩)] 40))) (fun i _ => l.length - (intOf i).toNat)
  case atStart => exact ⟨0, by omega, rfl, by rw [List.take_zero, List.flatMap_nil, List.append_nil]; exact HS0.out⟩
  case round =>
    obtain ⟨j, hj, rfl, HR⟩ := hrel
    clear HS0 hS
    by_cases hlt : j < l.length
    · have hltI : (j : Int) < (l.length : Int) := by omega
      have hj0 : (0 : Int) ≤ (j : Int) := by omega
      obtain ⟨b, o, hao, hcs⟩ := HK.out (fun e => by rw [e] at hlt; simp at hlt)
      obtain ⟨ao', ca', hc, hnm, hcall⟩ := hcs j hlt
      obtain ⟨g0, g1, g2, g3, g4, g5, g6⟩ := hc.kept (HR.out.1.gr.block b (block_lt_of_cell hc.c0) id)
      have HTK : Hid (bs ++ (l.take (j + 1)).flatMap (fB kb) = bs ++ (l.take j).flatMap (fB kb) ++ fB kb l[j]) := by show _ = _; rw [flat_next (fB kb) l j hlt, ← List.append_assoc]
      have HLim : Hid ((bs ++ (l.take j).flatMap (fB kb)).length + (fB kb l[j]).length ≤ 65536) := by
        have h3 := flat_take (fB kb) l (j + 1)
        rw [flat_next (fB kb) l j hlt, List.length_append] at h3
        have := HLen.out
        rw [List.length_append]
        show _ ≤ _; omega
      have HC := hidM hcall
      have z0 : wr.cell? ⟨S, 0, none⟩ = some (.pointer (some ⟨K, 0, none⟩)) := by simp [World.cell?, HR.out.2.2]
      have za := fun o => (gr_alloc wr o).cell' z0 id
      have HQ := hidM (QF.first (t := 48) HR.out.1 HR.out.2.1 HNe.out HR.out.2.2 #[.string l[j].name, .bool l[j].nul, .int .i64 l[j].kind, .int .i64 l[j].width, .int .i64 l[j].id, .int .i64 l[j].index, .slice ao' l[j].kids.length ca'])
      have H32 := hidM (penText_any HQ.out.ink l[j].name 1 (.inl rfl) (by have := HLim.out; simp [fB, txtB, numB_len] at this ⊢; omega))
      subst hao
      clear hcs hcall hc
      go_wp2_with (go_at_call 32; refine Hid.out ?_)
      unfold Hid
      refine Calls.mono H32.out ?_
      rintro e V1 ⟨rfl, hI1, hU1⟩
      have HQ1 := hidM (HQ.out.next hI1 hU1 (by decide))
      obtain ⟨F, hF⟩ : ∃ F, F = wr.heap.size := ⟨_, rfl⟩
      rw [← hF] at HQ1 ⊢
      clear hI1 hU1 H32 HQ za z0 g0 g1 g2 g3 g4 g5 g6 HR hF
      have H23 := hidM (penFlag_any HQ1.out.ink l[j].nul (by have := HLim.out; simp [fB, txtB, numB_len, flgB_len] at this ⊢; omega))
      have z0 := HQ1.out.penc
      obtain ⟨q0, q1, q2, q3, q4, q5, q6⟩ := ce7 HQ1.out.box
      go_wp2_with (go_at_call 23; refine Hid.out ?_)
      unfold Hid
      refine Calls.mono H23.out ?_
      rintro e V2 ⟨rfl, hI1, hU1⟩
      have HQ2 := hidM (HQ1.out.next hI1 hU1 (by decide))
      clear hI1 hU1 H23 HQ1 z0 q0 q1 q2 q3 q4 q5 q6
      have H42 := hidM (HC.out _ _ HQ2.out.ink (by have := HLim.out; simp [fB, txtB, numB_len, flgB_len] at this ⊢; omega))
      have z0 := HQ2.out.penc
      obtain ⟨q0, q1, q2, q3, q4, q5, q6⟩ := ce7 HQ2.out.box
      go_wp2_with (go_at_call 42; refine Hid.out ?_)
      unfold Hid
      refine Calls.mono H42.out ?_
      rintro e V3 ⟨rfl, hI1, hU1⟩
      have HQ3 := hidM (HQ2.out.next hI1 hU1 (by decide))
      clear hI1 hU1 H42 HQ2 z0 q0 q1 q2 q3 q4 q5 q6
      have HN : Hid (InkAt w V3 K (bs ++ (l.take (j + 1)).flatMap (fB kb)) ∧ KU K W V3 ∧ V3.heap[S]? = some (.cells #[.pointer (some ⟨K, 0, none⟩)] 40)) := by
        refine ⟨?_, HQ3.out.ku, HQ3.out.pen⟩
        have := HQ3.out.ink
        rw [HTK.out]
        simpa [fB, List.append_assoc] using this
      clear HQ3 HTK HLim HC
      go_wp2_with fail
      go_roundw
      case rel => exact ⟨j + 1, by omega, by simp, HN.out⟩
      case measure => simp [intOf]; omega
    · have hltI : ¬ (j : Int) < (l.length : Int) := by omega
      have HE : Hid (InkAt w wr K (bs ++ l.flatMap (fB kb)) ∧ KU K W wr) := by
        have := HR.out
        rw [List.take_of_length_le (by omega)] at this
        exact ⟨this.1, this.2.1⟩
      clear HR
      go_wp2_with fail
      go_end0
      exact ⟨rfl, HE.out⟩
end Go.Proofs.YtchhnchddledlaaDoor.Kit
