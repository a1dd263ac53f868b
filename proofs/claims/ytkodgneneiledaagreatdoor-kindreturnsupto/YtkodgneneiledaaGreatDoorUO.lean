import Derived.Test.YtkodgneneiledaaGreatDoorUL
import Derived.Test.YtkodgneneiledaaGreatDoorUN
namespace Go.Proofs.YtkodgneneiledaaGreatDoor.Kit
open Go.RowKit Go.Shelf Go.Deep
set_option linter.unusedVariables false

/-! ### quoted 50 -/
def u8v (c : UInt8) : List Value := [.int .u8 (c.toNat : Int)]
theorem infoU8 : (Tryz.prog.info? 5).map (fun i => (i.zero, i.size, i.bytes)) = some (some (.int .u8 0), 1, 1) := by kernel_rfl
theorem srcU8 (w : World) (z : Int) : Src Tryz.prog 1 111 (.slice (some ⟨w.heap.size, 0, none⟩) 1 1) 1 [.int .u8 z] (w.alloc (.cells #[.int .u8 z] 5)) := by
  refine Src.ofSlice (w := w.alloc (.cells #[.int .u8 z] 5)) Tryz.underlying111 ⟨w.heap.size, 0, none⟩ 1 1 [.int .u8 z] (by simp) (fun j x h => ?_) (fun x h => by simp at h; rw [h]; rfl)
  have hb := heap_alloc_new w (.cells #[.int .u8 z] 5)
  have e : (⟨w.heap.size, 0, none⟩ : Addr).add j = ⟨w.heap.size, j, none⟩ := by cases j <;> simp [Addr.add]
  rw [e]
  simp only [World.cell?, hb]
  simpa using h
theorem flat_u8 (bs : List UInt8) : bs.flatMap u8v = bs.map fun c => Value.int .u8 (c.toNat : Int) := by
  induction bs with
  | nil => rfl
  | cons c l ih => rw [List.flatMap_cons, ih]; rfl
theorem bytes_str {W w' : World} {vo : Option Addr} {vc : Nat} {bs : List UInt8} (h : LAt W w' 5 1 u8v bs vo vc) : (convert 111 9 (.slice vo bs.length vc)).run Tryz.prog w' = .ok (.string ⟨bs.toArray⟩) w' := by
  rcases h.own.2 with ⟨e, e0⟩ | ⟨g, cap, cur, e, _⟩
  · have : bs = [] := List.length_eq_zero_iff.1 e0
    subst this
    cases e
    show Eq _ _
    kernel_rfl
  · cases e
    refine run_convert_bytes_back w' 111 9 5 ⟨g, 0, none⟩ vc bs Tryz.underlying111 Tryz.underlying5 Tryz.underlying9 fun j hj => ?_
    refine h.own.cells rfl j _ ?_
    rw [flat_u8]
    simp [List.getElem?_eq_getElem hj]
theorem quo_next {T : List UInt8} {n k : Nat} {acc : List UInt8} {g : List Nat} {c : UInt8} {s1 : Ps} (h : nextP T (k, g) = .ok (c, s1)) : quoP T (n + 1) acc (k, g) = (if c = 34 then Pr.pure (⟨acc.toArray⟩ : ByteArray) else if c = 92 then (escP T k).bind fun b => quoP T n (acc ++ [b]) else if plainB c then quoP T n (acc ++ [c]) else fun _ => .error k) s1 := by
  rw [quoP]; exact Pr.bind_ok h
set_option maxRecDepth 100000 in
set_option maxHeartbeats 4000000 in
theorem isPlain60 (c : UInt8) (w : World) : Calls Tryz.prog 106 #[.int .u8 (c.toNat : Int)] w fun e w' => e = .returned (.bool (plainB c)) ∧ w' = w := by
  have hb : plainB c = (decide ((32 : Int) ≤ (c.toNat : Int)) && decide ((c.toNat : Int) ≤ 126)) := by
    unfold plainB; rw [Bool.eq_iff_iff]; simp; omega
  rw [hb]
  clear hb
  generalize (c.toNat : Int) = n
  go_enter Tryz.func106, Tryz.ntmps106
  go_wp2
  all_goals
    go_ret
    refine ⟨congrArg (fun b => Ending.returned (.bool b)) ?_, rfl⟩
    rw [Bool.eq_iff_iff]
    simp
    try omega
set_option maxRecDepth 100000 in
set_option maxHeartbeats 4000000 in
theorem quoted50 (p : Nat) (s : ByteArray) : PrC p s 79 #[.pointer (some ⟨p, 0, none⟩)] (quotedP s.data.toList) (fun x v => v = .string x) := by
  intro no W a g hR
  obtain ⟨R, hRes⟩ : ∃ R, R = quotedP s.data.toList (a, g) := ⟨_, rfl⟩
  rw [← hRes]
  have HRes := hidP hRes
  have HM := hidP (must_any p s 34 (by decide) no W a g hR)
  have HLen := hidP hR.len
  have HLt := hidP hR.lt
  have HN := hidP (next_any p s no)
  have HX := hidP (fun o => escape_any p s o no)
  clear hR hRes
  go_enter Tryz.func79, Tryz.ntmps79
  go_wp2_with (go_at_call 91; refine Hid.out ?_)
  unfold Hid
  cases hr : mustP s.data.toList 34 (a, g) with
  | error o =>
    rw [hr] at HM
    have Hr := hidP hr
    clear hr
    refine Calls.mono HM.out ?_
    rintro e' U ⟨hk, rfl⟩
    have HK := hidP hk
    clear hk
    go_wp2_with fail
    exact ⟨rfl, PrQ.err HK.out (by rw [HRes.out]; exact Pr.bind_err Hr.out)⟩
  | ok q =>
    obtain ⟨x, a1, g1⟩ := q
    rw [hr] at HM
    have HS0 : Hid (quoP s.data.toList D0 [] (a1, g) = R) := by
      have hg := (fw_must _ _ _ _ _ hr).2
      have hg : g1 = g := hg
      have h2 : quotedP s.data.toList (a, g) = quoP s.data.toList D0 [] (a1, g1) := Pr.bind_ok hr
      show _ = _; rw [HRes.out, h2, hg]
    clear hr
    refine Calls.mono HM.out ?_
    rintro e' U ⟨hk, hg, v, rfl, rfl, hR⟩
    have HK := hidP hk
    have HR := hidP hR
    have ha := hR.pos
    clear hk hR HM hg HRes
    go_wp2_with fail
    go_loopw [3] (fun v wr => ∃ (k n : Nat) (acc : List UInt8) (vo : Option Addr) (vc : Nat), k ≤ s.size ∧ s.size - k < n ∧ acc.length ≤ k ∧ v = .slice vo acc.length vc ∧ Hid (LAt W wr 5 1 u8v acc vo vc) ∧ Hid (TAt wr p s k no) ∧ Hid (KpR W wr p) ∧ Hid (quoP s.data.toList n acc (k, g) = R)) (fun _ wr => s.size - atOf wr p)
    case atStart => exact ⟨a1, D0, [], none, 0, ha, by have := HLen.out; show _ < 65537; omega, Nat.zero_le _, rfl, LAt.nil _ _ _ _ _, HR.out, HK.out, HS0.out⟩
    case round =>
      clear HR HK HS0 ha
      obtain ⟨k, n, acc, vo, vc, hk, hn, hal, rfl, HA, HR, HK, HS⟩ := hrel
      obtain ⟨d0, d1⟩ := HR.out.cells
      have hsz := HLen.out
      have hm : atOf wr p = k := HR.out.at
      have Hm := hidP hm
      clear hm
      go_wp2_with (go_at_call 108; refine Hid.out ?_)
      unfold Hid
      have hq := HN.out wr k g HR.out
      obtain ⟨n, rfl⟩ : ∃ m, n = m + 1 := ⟨n - 1, by omega⟩
      by_cases hlt : k < s.size
      · rw [next_ok g hlt] at hq
        have HS1 := hidP ((quo_next (acc := acc) (n := n) (next_ok g hlt)).symm.trans HS.out)
        have HAE := hidP HA.out.own
        generalize s[k]'hlt = c at hq HS1
        refine Calls.mono hq ?_
        rintro e' u ⟨hk', _, v, rfl, rfl, hR⟩
        have HR1 := hidP hR
        have HK1 := hidP (HK.out.trans hk' fun _ _ h => h)
        have HA1 := hidP (HA.out.blk hk' fun z e hz h => by have := HLt.out; omega)
        clear hk' hq hR HR HK HS HA d0 d1 HAE
        have e34 : ((c.toNat : Int) == 34) = decide (c = 34) := by
          rw [Bool.eq_iff_iff]; simp only [beq_iff_eq, decide_eq_true_eq]
          exact ⟨fun h => UInt8.toNat_inj.1 (by show c.toNat = 34; omega), fun h => by rw [h]; rfl⟩
        have e92 : ((c.toNat : Int) == 92) = decide (c = 92) := by
          rw [Bool.eq_iff_iff]; simp only [beq_iff_eq, decide_eq_true_eq]
          exact ⟨fun h => UInt8.toNat_inj.1 (by show c.toNat = 92; omega), fun h => by rw [h]; rfl⟩
        by_cases h34 : c = 34
        · rw [decide_eq_true h34] at e34
          have HE : Hid (R = .ok (⟨acc.toArray⟩, (k + 1, g))) := by show R = _; rw [← HS1.out, if_pos h34]; rfl
          have hcv := bytes_str HA1.out
          clear e92 h34
          go_wp2_with fail
          go_ret
          exact PrQ.ok HK1.out HE.out rfl HR1.out
        · rw [decide_eq_false h34] at e34
          by_cases h92 : c = 92
          · rw [decide_eq_true h92] at e92
            have HS2 : Hid (((escP s.data.toList k).bind fun b => quoP s.data.toList n (acc ++ [b])) (k + 1, g) = R) := by show _ = R; rw [← HS1.out, if_neg h34, if_pos h92]
            clear h34 h92
            go_wp2_with (go_at_call 109; refine Hid.out ?_)
            unfold Hid
            have hq := HX.out k u (k + 1) g HR1.out
            cases hr : escP s.data.toList k (k + 1, g) with
            | error o =>
              rw [hr] at hq
              refine Calls.mono hq ?_
              rintro e' U2 ⟨hk', rfl⟩
              have HGe := hidP (HK1.out.trans hk' fun _ _ h => h)
              have HE : Hid (R = .error o) := by show R = _; rw [← HS2.out]; exact Pr.bind_err hr
              clear hk' hq hr
              go_wp2_with fail
              exact ⟨rfl, PrQ.err HGe.out HE.out⟩
            | ok q =>
              obtain ⟨b, k2, g2⟩ := q
              rw [hr] at hq
              have hf := fw_esc _ _ _ _ _ hr
              have hg2 : g2 = g := hf.2
              have hk2 : k + 1 ≤ k2 := hf.1
              subst hg2
              refine Calls.mono hq ?_
              rintro e' U2 ⟨hk', _, v, rfl, rfl, hR⟩
              have HE : Hid (quoP s.data.toList n (acc ++ [b]) (k2, g2) = R) := by show _ = R; rw [← HS2.out]; exact (Pr.bind_ok (f := fun b => quoP s.data.toList n (acc ++ [b])) hr).symm
              have HR2 := hidP hR
              have hp2 := hR.pos
              have HK2 := hidP (HK1.out.trans hk' fun _ _ h => h)
              have HA2 := hidP (HA1.out.blk hk' fun z e hz h => by have := HLt.out; omega)
              have HSr := hidP (srcU8 U2 (b.toNat : Int))
              clear hk' hq hr hR HR1 HK1 HS1 HS2 HA1 hf
              go_wp2_with (with_reducible show wpList Tryz.prog _ _ (Oper.mk (some 29) _ _ _ _ _ :: _) _ _; refine Hid.out ?_)
              unfold Hid
              refine wpList_append_any (P := Tryz.prog) _ rfl (.tmp 24) (.tmp 28) 111 111 rfl 5 (.int .u8 0) 1 Tryz.underlying111 infoU8 rfl _ acc.length (acc.flatMap u8v) rfl (HA2.out.own.alloc _) _ 1 [.int .u8 (b.toNat : Int)] rfl HSr.out (by omega) (by omega) ?_
              refine Hid.out ?_
              unfold Hid
              intro v' w1 hown hgrow hblk
              obtain ⟨vo', vc', rfl⟩ := own_formK hown
              have hL : acc.length + 1 = (acc ++ [b]).length := by simp
              rw [hL] at hown hblk ⊢
              have gA : Gr U2 (U2.alloc (.cells #[.int .u8 (b.toNat : Int)] 5)) := gr_alloc U2 _
              have kA : Keeps U2 w1 (fun z => (Value.slice vo acc.length vc).ownBlock = some z) := (gA.mono fun _ _ h => h.elim).trans (Keeps.ofGrown hgrow) (fun _ _ h => h)
              have HK3 : Hid (KpR W w1 p) := HK2.out.trans kA fun j hj h => by have := HA2.out.new j h; omega
              have HR3 : Hid (TAt w1 p s _ no) := ⟨(kA.block p HR2.out.lt fun h => by have := HA2.out.new p h; have := HLt.out; omega).trans HR2.out.box, HR2.out.len, HR2.out.pos⟩
              have HA3 : Hid (LAt W w1 5 1 u8v (acc ++ [b]) vo' vc') := ⟨by rw [List.flatMap_append]; exact hown, fun g e => hblk.elim (fun q => HA2.out.new g (q ▸ e)) (fun q => by have := q g e; have := HK2.out.size; have := gA.size; omega)⟩
              have HM := hidP HR3.out.at
              clear hown hgrow hblk gA kA hL HA2 HR2 HK2 HSr
              go_wp2_with fail
              go_roundw
              case rel => exact ⟨k2, n, acc ++ [b], vo', vc', hp2, by omega, by simp; omega, by simp, HA3.out, HR3.out, HK3.out, HE.out⟩
              case measure =>
                have h1 := HM.out
                have h2 := Hm.out
                rw [h2]
                refine Nat.lt_of_le_of_lt (Nat.le_of_eq (congrArg (s.size - ·) h1)) ?_
                omega
          · rw [decide_eq_false h92] at e92
            have hq := fun V => isPlain60 c V
            have HQ := hidP hq
            clear hq
            cases hpl : plainB c with
            | true =>
              rw [hpl] at HQ
              have HE : Hid (quoP s.data.toList n (acc ++ [c]) (k + 1, g) = R) := by show _ = R; rw [← HS1.out, if_neg h34, if_neg h92, if_pos hpl]
              have hp2 := HR1.out.pos
              have HSr := hidP (srcU8 u (c.toNat : Int))
              clear hpl h34 h92 HS1
              go_wp2_with (first | (go_at_call 106; refine Calls.mono (HQ.out _) ?_; rintro e u ⟨rfl, rfl⟩) | (with_reducible show wpList Tryz.prog _ _ (Oper.mk (some 36) _ _ _ _ _ :: _) _ _; refine Hid.out ?_))
              unfold Hid
              refine wpList_append_any (P := Tryz.prog) _ rfl (.tmp 33) (.tmp 35) 111 111 rfl 5 (.int .u8 0) 1 Tryz.underlying111 infoU8 rfl _ acc.length (acc.flatMap u8v) rfl (HA1.out.own.alloc _) _ 1 [.int .u8 (c.toNat : Int)] rfl HSr.out (by omega) (by omega) ?_
              refine Hid.out ?_
              unfold Hid
              intro v' w1 hown hgrow hblk
              obtain ⟨vo', vc', rfl⟩ := own_formK hown
              have hL : acc.length + 1 = (acc ++ [c]).length := by simp
              rw [hL] at hown hblk ⊢
              have gA : Gr u (u.alloc (.cells #[.int .u8 (c.toNat : Int)] 5)) := gr_alloc u _
              have kA : Keeps u w1 (fun z => (Value.slice vo acc.length vc).ownBlock = some z) := (gA.mono fun _ _ h => h.elim).trans (Keeps.ofGrown hgrow) (fun _ _ h => h)
              have HK3 : Hid (KpR W w1 p) := HK1.out.trans kA fun j hj h => by have := HA1.out.new j h; omega
              have HR3 : Hid (TAt w1 p s _ no) := ⟨(kA.block p HR1.out.lt fun h => by have := HA1.out.new p h; have := HLt.out; omega).trans HR1.out.box, HR1.out.len, HR1.out.pos⟩
              have HA3 : Hid (LAt W w1 5 1 u8v (acc ++ [c]) vo' vc') := ⟨by rw [List.flatMap_append]; exact hown, fun g e => hblk.elim (fun q => HA1.out.new g (q ▸ e)) (fun q => by have := q g e; have := HK1.out.size; have := gA.size; omega)⟩
              have HM := hidP HR3.out.at
              clear hown hgrow hblk gA kA hL HA1 HR1 HK1 HSr
              go_wp2_with fail
              go_roundw
              case rel => exact ⟨k + 1, n, acc ++ [c], vo', vc', hp2, by omega, by simp; omega, by simp, HA3.out, HR3.out, HK3.out, HE.out⟩
              case measure =>
                have h1 := HM.out
                have h2 := Hm.out
                rw [h2]
                refine Nat.lt_of_le_of_lt (Nat.le_of_eq (congrArg (s.size - ·) h1)) ?_
                omega
            | false =>
              rw [hpl] at HQ
              have HE : Hid (R = .error k) := by show R = _; rw [← HS1.out, if_neg h34, if_neg h92, if_neg (by rw [hpl]; decide)]
              clear hpl h34 h92
              go_wp2_with (go_at_call 106; refine Calls.mono (HQ.out _) ?_; rintro e u ⟨rfl, rfl⟩)
              exact ⟨rfl, PrQ.err HK1.out HE.out⟩
      · obtain rfl : k = s.size := by omega
        rw [next_end g] at hq
        have HE : Hid (R = .error s.size) := by show R = _; rw [← HS.out, quoP]; exact Pr.bind_err (next_end g)
        refine Calls.mono hq ?_
        rintro e' U2 ⟨hk', rfl⟩
        have HGe := hidP (HK.out.trans hk' fun _ _ h => h)
        clear hk' hq
        go_wp2_with fail
        exact ⟨rfl, PrQ.err HGe.out HE.out⟩
end Go.Proofs.YtkodgneneiledaaGreatDoor.Kit
