import Derived.Test.YtfoifmacobldbaaGreatDoorTQ
import Derived.Test.YtfoifmacobldbaaGreatDoorPD
set_option maxRecDepth 100000
set_option maxHeartbeats 4000000
namespace Go.Proofs.YtfoifmacobldbaaGreatDoor.Kit
open Go.RowKit Go.Shelf Go.Deep
set_option linter.unusedVariables false
set_option linter.unusedSimpArgs false
/-! ### items 66 -/
def lenOf : Value → Nat
  | .slice _ n _ => n
  | _ => 0
/-- where a list stands -/
structure ItS (W1 wr : World) (p : Nat) (s : ByteArray) (er : Int) (d k : Nat) (l : List VE) (vo : Option Addr) (vc : Nat) : Prop where
  row : VL W1 wr d l vo vc
  kp : Keeps W1 wr (fun z => z = p)
  rd : Rd wr p s k er
theorem ItS.next {W1 wr U : World} {p : Nat} {s : ByteArray} {er er' : Int} {d k k' : Nat} {l : List VE} {vo : Option Addr} {vc : Nat} (h : ItS W1 wr p s er d k l vo vc) (hp : p < W1.heap.size) (k1 : Keeps wr U (fun z => z = p)) (r1 : Rd U p s k' er') : ItS W1 U p s er' d k' l vo vc :=
  ⟨h.row.kp k1 hp, h.kp.trans k1 (fun _ _ h => h), r1⟩
theorem ItS.gr {W1 wr U : World} {p : Nat} {s : ByteArray} {er : Int} {d k : Nat} {l : List VE} {vo : Option Addr} {vc : Nat} (h : ItS W1 wr p s er d k l vo vc) (hp : p < W1.heap.size) (g : Gr wr U) : ItS W1 U p s er d k l vo vc :=
  h.next hp (gr_kp g) (h.rd.gr g)
theorem ItS.push {W1 wr U w1 : World} {p : Nat} {s : ByteArray} {er : Int} {d k : Nat} {l : List VE} {vo vo' : Option Addr} {vc vc' : Nat} {x : VT} {ko : Option Addr} {kc : Nat} {ob : Obj} (hp : p < W1.heap.size) (h0 : VL W1 wr d l vo vc) (hW : W1.heap.size ≤ wr.heap.size) (hU : wr.heap.size ≤ U.heap.size) (h : ItS W1 U p s er d k l vo vc) (hk : x.list.length ≤ kc) (hx : VOk x) (hr : VRow (NV wr U) U d ko x.list)
    (hown : w1.ownsRow 0 29 4 (.slice vo' (l.length + 1) vc') (l.length + 1) (l.flatMap vcel ++ vcel (x, ko, kc))) (hgrow : (U.alloc ob).grownBy w1 (Value.slice vo l.length vc).ownBlock) (hblk : (Value.slice vo' (l.length + 1) vc').ownBlock = (Value.slice vo l.length vc).ownBlock ∨ ∀ g, (Value.slice vo' (l.length + 1) vc').ownBlock = some g → (U.alloc ob).heap.size ≤ g) :
    ItS W1 w1 p s er d k (l ++ [(x, ko, kc)]) vo' vc' := by
  have gA : Gr U (U.alloc ob) := gr_alloc U _
  have kA : Keeps U w1 (fun z => (Value.slice vo l.length vc).ownBlock = some z) := (gA.mono fun _ _ h => h.elim).trans (Keeps.ofGrown hgrow) (fun _ _ h => h)
  have hnp : (Value.slice vo l.length vc).ownBlock ≠ some p := fun e => by have := h.row.row.new p e; omega
  exact ⟨VL.push hW hU h0 h.row rfl hk hx hr hown hgrow hblk, h.kp.trans kA (fun j hj e => by have := h.row.row.new j e; omega), ⟨(kA.block p h.rd.lt hnp).trans h.rd.box, h.rd.len, h.rd.pos⟩⟩
def itR (r : List UInt8 → Option (VT × List UInt8)) (s : List UInt8) : Option (List VT × List UInt8) := match QB.takes [91] s with
  | none => none
  | some s1 => match QB.takes [93] s1 with
    | some s2 => some ([], s2)
    | none => QB.rdItems r 4096 s1
theorem Rd.fail {W : World} {p : Nat} {s : ByteArray} {a : Nat} {er : Int} (h : Rd W p s a er) : Rd (W.setCell ⟨p, 2, none⟩ (.int .i64 3)) p s a 3 := by
  refine ⟨?_, h.len, h.pos⟩
  rw [heap_setCell_same W p 2 _ _ _ h.box]
  simp
theorem Bad.gr {W W' : World} {p : Nat} {s : ByteArray} (h : Bad W p s) (g : Gr W W') : Bad W' p s := by
  obtain ⟨a, er, he, hr⟩ := h
  exact ⟨a, er, he, hr.gr g⟩
theorem at_rest {s : ByteArray} {k : Nat} (h : k ≤ s.size) : (s.data.toList.drop k).length ≤ s.size ∧ s.data.toList.drop k = s.data.toList.drop (s.size - (s.data.toList.drop k).length) ∧ s.size - (s.data.toList.drop k).length = k := by
  have e : (s.data.toList.drop k).length = s.size - k := by simp
  have e2 : s.size - (s.size - k) = k := by omega
  refine ⟨by omega, by rw [e, e2], by rw [e, e2]⟩
theorem pre_lt {s : ByteArray} {k : Nat} {c : UInt8} (h : [c].isPrefixOf (s.data.toList.drop k) = true) : k < s.size := by
  rcases Nat.lt_or_ge k s.size with q | q
  · exact q
  · rw [List.drop_of_length_le (by simpa using q)] at h; cases h
/-- where a list of items stands -/
def RiI (W1 wr : World) (p : Nat) (s : ByteArray) (er : Int) (d : Nat) (r : List UInt8 → Option (VT × List UInt8)) (R : Option (List VT × List UInt8)) (k : Nat) (vo : Option Addr) (n vc : Nat) : Prop :=
  ∃ l : List VE, l.length = n ∧ ItS W1 wr p s er d k l vo vc ∧ R = (QB.rdItems r (4096 - n) (s.data.toList.drop k)).map fun y => (l.map (·.1) ++ y.1, y.2)
theorem items66 (p : Nat) (s : ByteArray) (W : World) (a d : Nat) (er : Int) (r : List UInt8 → Option (VT × List UInt8)) (g0 : ByteArray) (g1 : Bool) (g2 g3 g4 g5 : Int) (go : Option Addr) (gn gc : Nat)
    (hV : ∀ W2 k, Keeps W W2 (fun z => z = p) → Rd W2 p s k er → Calls Tryz.prog 29 #[.pointer (some ⟨p, 0, none⟩), .agg #[.string g0, .bool g1, .int .i64 g2, .int .i64 g3, .int .i64 g4, .int .i64 g5, .slice go gn gc]] W2 (VaA W2 p s er d (r (s.data.toList.drop k))))
    (hR : Rd W p s a er) : Calls Tryz.prog 66 #[.pointer (some ⟨p, 0, none⟩), .agg #[.string g0, .bool g1, .int .i64 g2, .int .i64 g3, .int .i64 g4, .int .i64 g5, .slice go gn gc]] W (LsA W p s er d (itR r (s.data.toList.drop a))) := by
  obtain ⟨W1, hW1⟩ : ∃ W1, W.alloc (.cells #[.string g0, .bool g1, .int .i64 g2, .int .i64 g3, .int .i64 g4, .int .i64 g5, .slice go gn gc] 26) = W1 := ⟨_, rfl⟩
  have hG1 : Gr W W1 := by rw [← hW1]; exact gr_alloc _ _
  have hbx : W1.heap[W.heap.size]? = some (.cells #[.string g0, .bool g1, .int .i64 g2, .int .i64 g3, .int .i64 g4, .int .i64 g5, .slice go gn gc] 26) := by rw [← hW1]; exact heap_alloc_new W _
  have hLT := hR.lt
  have hsz : W1.heap.size = W.heap.size + 1 := by rw [← hW1]; simp
  have hpn : p ≠ W.heap.size := by omega
  have HCB : Hid (∀ wr, Keeps W1 wr (fun z => z = p) → wr.cell? ⟨W.heap.size, 0, none⟩ = some (.string g0) ∧ wr.cell? ⟨W.heap.size, 1, none⟩ = some (.bool g1) ∧ wr.cell? ⟨W.heap.size, 2, none⟩ = some (.int .i64 g2) ∧ wr.cell? ⟨W.heap.size, 3, none⟩ = some (.int .i64 g3) ∧ wr.cell? ⟨W.heap.size, 4, none⟩ = some (.int .i64 g4) ∧ wr.cell? ⟨W.heap.size, 5, none⟩ = some (.int .i64 g5) ∧ wr.cell? ⟨W.heap.size, 6, none⟩ = some (.slice go gn gc)) := fun wr hk => by
    have h := (hk.block W.heap.size (lt_of_heap hbx) (fun e => hpn e.symm)).trans hbx
    simp [World.cell?, h]
  have HV : Hid (∀ W2 k, Keeps W1 W2 (fun z => z = p) → Rd W2 p s k er → Calls Tryz.prog 29 #[.pointer (some ⟨p, 0, none⟩), .agg #[.string g0, .bool g1, .int .i64 g2, .int .i64 g3, .int .i64 g4, .int .i64 g5, .slice go gn gc]] W2 (VaA W2 p s er d (r (s.data.toList.drop k)))) := fun W2 k hk hr => hV W2 k ((gr_kp hG1).trans hk (fun _ _ h => h)) hr
  have hR1 := hR.gr hG1
  have HG1 := hidM hG1
  have HLT1 : Hid (p < W1.heap.size) := by show _ < _; omega
  have HSL := hidM hR.len
  obtain ⟨b, hb⟩ : ∃ b, [91].isPrefixOf (s.data.toList.drop a) = b := ⟨_, rfl⟩
  have HM := hidM (must98 p s ⟨#[91]⟩ b W1 a er hR1 (by decide) hb)
  unfold itR
  rw [takes_iff, hb]
  clear hR hV hG1 hbx hR1 hLT
  cases b with
  | false =>
    clear hb
    go_enter Tryz.func66, Tryz.ntmps66
    go_wp2_with (go_at_call 98; refine HM.out.mono ?_; rintro e u ⟨rfl, hk, hr⟩; have HK := hidM hk; have HR := hidM hr; clear hk hr; simp only [])
    go_ret2
    exact ⟨(gr_kp HG1.out).trans HK.out (fun _ _ h => h), ⟨_, _, _, rfl⟩, HR.out.isBad⟩
  | true =>
    rw [if_pos rfl]
    simp only [List.drop_drop]
    have hal : a + 1 ≤ s.size := pre_lt hb
    obtain ⟨b2, hb2⟩ : ∃ b2, [93].isPrefixOf (s.data.toList.drop (a + 1)) = b2 := ⟨_, rfl⟩
    have HT : Hid (∀ u, Rd u p s (a + 1) er → Calls Tryz.prog 99 #[.pointer (some ⟨p, 0, none⟩), .string ⟨#[93]⟩] u fun e W' => e = .returned (.bool b2) ∧ Keeps u W' (fun z => z = p) ∧ Rd W' p s (if b2 then a + 1 + 1 else a + 1) er) := fun u h => takes99 p s ⟨#[93]⟩ b2 u (a + 1) er h (by decide) hb2
    show Calls _ _ _ _ (LsA W p s er d (match QB.takes [93] (s.data.toList.drop (a + 1)) with | some s2 => some ([], s2) | none => QB.rdItems r 4096 (s.data.toList.drop (a + 1))))
    rw [takes_iff, hb2]
    clear hb
    cases b2 with
    | true =>
      have HLA : Hid (a + 1 + 1 ≤ s.size) := pre_lt hb2
      rw [if_pos rfl]
      simp only [List.drop_drop]
      clear hb2
      go_enter Tryz.func66, Tryz.ntmps66
      go_wp2_with (first
        | (go_at_call 98; refine HM.out.mono ?_; rintro e u ⟨rfl, hk, hr⟩; have HK := hidM hk; have HR := hidM hr; clear hk hr; simp only [])
        | (go_at_call 99; refine (HT.out _ HR.out).mono ?_; rintro e u2 ⟨rfl, hk, hr⟩; have HK2 := hidM hk; have HR2 := hidM hr; clear hk hr; simp only []))
      go_ret2
      obtain ⟨e1, e2, e3⟩ := at_rest HLA.out
      refine ⟨((gr_kp HG1.out).trans HK.out (fun _ _ h => h)).trans HK2.out (fun _ _ h => h), ⟨none, 0, rfl, Nat.zero_le _, by simp [big], fun h => absurd rfl h⟩, e1, e2, ?_⟩
      have h := HR2.out
      rw [← e3] at h
      exact h
    | false =>
      rw [if_neg (by simp)]
      obtain ⟨R, hRe⟩ : ∃ R, R = QB.rdItems r 4096 (s.data.toList.drop (a + 1)) := ⟨_, rfl⟩
      show Calls _ _ _ _ (LsA W p s er d (QB.rdItems r 4096 (s.data.toList.drop (a + 1))))
      rw [← hRe]
      have HRe := hidM hRe
      clear hb2 hRe
      go_enter Tryz.func66, Tryz.ntmps66
      go_wp2_with (first
        | (go_at_call 98; refine HM.out.mono ?_; rintro e u ⟨rfl, hk, hr⟩; have HK := hidM hk; have HR := hidM hr; clear hk hr; simp only [])
        | (go_at_call 99; refine (HT.out _ HR.out).mono ?_; rintro e u2 ⟨rfl, hk, hr⟩; have HK2 := hidM (HK.out.trans hk (fun _ _ h => h)); have HR2 := hidM hr; clear hk hr; simp only []))
      have HI : Hid (RiI W1 u2 p s er d r R (a + 1) none 0 0) := ⟨[], rfl, ⟨VL.nil _ _ _, HK2.out, HR2.out⟩, by rw [HRe.out]; cases QB.rdItems r (4096 - 0) (s.data.toList.drop (a + 1)) <;> rfl⟩
      clear HR HK HM HRe HT HR2 HK2
      go_loopw [6] (fun x wr => ∃ (k n : Nat) (vo : Option Addr) (vc : Nat), k ≤ s.size ∧ n ≤ 4096 ∧ x = .slice vo n vc ∧ Hid (RiI W1 wr p s er d r R k vo n vc)) (fun x _ => 4097 - lenOf x)
      case atStart => exact ⟨a + 1, 0, none, 0, hal, by omega, rfl, HI⟩
      case round =>
        obtain ⟨k, n, vo, vc, hk, hn, rfl, HD⟩ := hrel
        clear HI
        obtain ⟨l, hl, hi, hq⟩ := HD.out
        have HI := hidM hi
        have HQ := hidM hq
        have HLn := hidM hl
        have hsl := HSL.out
        obtain ⟨c0, c1, c2, c3, c4, c5, c6⟩ := HCB.out wr hi.kp
        have e2 := hi.rd.cells.2.2
        have y2 := hi.rd.frz.2
        clear hi hq hl HD
        by_cases hf : (n : Int) = 4096
        · go_wp2_with fail
          go_ret2
          refine ⟨((gr_kp HG1.out).trans HI.out.kp (fun _ _ h => h)).trans ((Keeps.refl _ (fun z => z = p)).setCell (p := ⟨p, 2, none⟩) (fun _ => rfl) _) (fun _ _ h => h), ?_⟩
          rw [HQ.out, show 4096 - n = 0 by omega]
          exact ⟨⟨_, _, _, rfl⟩, k, 3, by decide, HI.out.rd.fail⟩
        · obtain ⟨m, hm⟩ : ∃ m, 4096 - n = m + 1 := ⟨4096 - n - 1, by omega⟩
          have hv := HV.out wr k HI.out.kp HI.out.rd
          cases ho : r (s.data.toList.drop k) with
          | none =>
            rw [ho] at hv
            have HC : Hid (Calls Tryz.prog 29 #[.pointer (some ⟨p, 0, none⟩), .agg #[.string g0, .bool g1, .int .i64 g2, .int .i64 g3, .int .i64 g4, .int .i64 g5, .slice go gn gc]] wr fun e W' => Keeps wr W' (fun z => z = p) ∧ (∃ val, e = .returned (.tuple #[val, .bool false]) ∧ AnyV val) ∧ Bad W' p s) := hv
            have HE : Hid (R = none) := by
              show _ = _
              rw [HQ.out, hm]
              unfold QB.rdItems
              rw [ho]
              rfl
            clear hv ho e2 y2
            go_wp2_with (go_at_call 29; refine HC.out.mono ?_; rintro e u3 ⟨hk3, ⟨val, rfl, b', n', x', lo, ln, lc, rfl⟩, hbad⟩; have HK3 := hidM hk3; have HBAD := hidM hbad; clear hk3 hbad; simp only [])
            go_ret2
            refine ⟨(((gr_kp HG1.out).trans HI.out.kp (fun _ _ h => h)).trans HK3.out (fun _ _ h => h)).trans (gr_kp (gr_alloc _ _)) (fun _ _ h => h), ?_⟩
            rw [HE.out]
            exact ⟨⟨_, _, _, rfl⟩, HBAD.out.gr (gr_alloc _ _)⟩
          | some vt =>
            obtain ⟨v, t⟩ := vt
            rw [ho] at hv
            have hv2 : Calls Tryz.prog 29 #[.pointer (some ⟨p, 0, none⟩), .agg #[.string g0, .bool g1, .int .i64 g2, .int .i64 g3, .int .i64 g4, .int .i64 g5, .slice go gn gc]] wr fun e W' => Keeps wr W' (fun z => z = p) ∧ (∃ val, e = .returned (.tuple #[val, .bool true]) ∧ VV d wr W' v val) ∧ t.length ≤ s.size ∧ t = s.data.toList.drop (s.size - t.length) ∧ Rd W' p s (s.size - t.length) er := hv
            have HC := hidM hv2
            have HO1 := hidM ho
            have HM1 := hidM hm
            have HLL : Hid (l.length ≤ 4096) := by show _ ≤ _; have := HLn.out; omega
            have hnl := HLn.out
            clear hv hv2 ho e2 y2 hm
            subst hnl
            go_wp2_with (first
              | (go_at_call 29; refine HC.out.mono ?_; rintro e u3 ⟨hk3, ⟨val, rfl, ko, kc, rfl, hkc, hok, hrow⟩, ht1, ht2, hr3⟩; have HK3 := hidM hk3; have HR3 := hidM hr3; have HT1 := hidM ht1; have HT2 := hidM ht2; have HVV := hidM (And.intro hkc (And.intro hok hrow)); clear hk3 hr3 ht1 ht2 hkc hok hrow; simp only [])
              | (at_builtin; refine Hid.out ?_))
            unfold Hid
            have HI3 := hidM (HI.out.next HLT1.out HK3.out HR3.out)
            have gB : Gr u3 (u3.alloc (.cells #[.bool v.nul, .int .i64 v.num, .string v.text, .slice ko v.list.length kc] 29)) := gr_alloc _ _
            have HI4 := hidM (HI3.out.gr HLT1.out gB)
            have HRW : Hid (VRow (NV wr (u3.alloc (.cells #[.bool v.nul, .int .i64 v.num, .string v.text, .slice ko v.list.length kc] 29))) (u3.alloc (.cells #[.bool v.nul, .int .i64 v.num, .string v.text, .slice ko v.list.length kc] 29)) d ko v.list) := HVV.out.2.2.nv (fun b hb => gB.block b hb.2 id) gB.size
            have HO := hidM (HI4.out.row.row.own.alloc (.cells #[.bool v.nul, .int .i64 v.num, .string v.text, .slice ko v.list.length kc] 29))
            have HSr : Hid (Src Tryz.prog 4 27 (.slice (some ⟨u3.heap.size + 1, 0, none⟩) 1 1) 1 (vcel (v, ko, kc)) ((u3.alloc (.cells #[.bool v.nul, .int .i64 v.num, .string v.text, .slice ko v.list.length kc] 29)).alloc (.cells #[.bool v.nul, .int .i64 v.num, .string v.text, .slice ko v.list.length kc] 29))) := by
              have h := src29 (u3.alloc (.cells #[.bool v.nul, .int .i64 v.num, .string v.text, .slice ko v.list.length kc] 29)) v ko kc
              rw [show (u3.alloc (.cells #[.bool v.nul, .int .i64 v.num, .string v.text, .slice ko v.list.length kc] 29)).heap.size = u3.heap.size + 1 by simp] at h
              exact h
            refine wpList_append_anyN (P := Tryz.prog) _ rfl (.tmp 29) (.tmp 31) 27 27 rfl 29 (.agg #[.bool false, .int .i64 0, .string ⟨#[]⟩, .slice none 0 0]) 4 56 Tryz.underlying27 info29 rfl _ _ _ rfl HO.out _ _ _ rfl HSr.out (by have := HLL.out; omega) (by have := HLL.out; omega) ?_
            refine Hid.out ?_
            unfold Hid
            intro v' w5 hown hgrow hblk
            obtain ⟨vo5, vc5, rfl⟩ := own_formN hown
            have HI5 := hidM (ItS.push HLT1.out HI.out.row HI.out.kp.size (Nat.le_trans HK3.out.size gB.size) HI4.out HVV.out.1 HVV.out.2.1 HRW.out hown hgrow hblk)
            clear hown hgrow hblk gB HO HSr HI3 HI4 HRW HK3 HR3 HC
            obtain ⟨k2, hk2⟩ : ∃ k2, k2 = s.size - t.length := ⟨_, rfl⟩
            rw [← hk2] at HT2 HI5
            have hk2l : k2 ≤ s.size := by omega
            have HK2 := hidM hk2
            clear hk2
            have HQ2 : Hid (R = Option.map (fun y => (l.map (·.1) ++ y.1, y.2)) (match QB.takes [93] (s.data.toList.drop k2) with
                | some s2 => some ([v], s2)
                | none => match QB.takes [44] (s.data.toList.drop k2) with
                  | none => none
                  | some s2 => match QB.rdItems r m s2 with
                    | none => none
                    | some (vs, s3) => some (v :: vs, s3))) := by
              show _ = _
              rw [HQ.out, HM1.out, ← HT2.out]
              conv => lhs; unfold QB.rdItems
              rw [HO1.out]
              rfl
            clear HQ HO1 HT1 HT2
            obtain ⟨b3, hb3⟩ : ∃ b3, [93].isPrefixOf (s.data.toList.drop k2) = b3 := ⟨_, rfl⟩
            have HT3 := hidM (takes99 p s ⟨#[93]⟩ b3 w5 k2 er HI5.out.rd (by decide) hb3)
            rw [takes_iff, hb3] at HQ2
            cases b3 with
            | true =>
              have HLK : Hid (k2 + 1 ≤ s.size) := pre_lt hb3
              have HE : Hid (R = some (l.map (·.1) ++ [v], s.data.toList.drop (k2 + 1))) := by
                show _ = _
                rw [HQ2.out, if_pos rfl]
                simp only [List.drop_drop]
                rfl
              clear hb3 HQ2
              go_wp2_with (go_at_call 99; refine HT3.out.mono ?_; rintro e u6 ⟨rfl, hk6, hr6⟩; have HI6 := hidM (HI5.out.next HLT1.out hk6 hr6); clear hk6 hr6; simp only [])
              go_ret2
              obtain ⟨e1, e2, e3⟩ := at_rest HLK.out
              refine ⟨(gr_kp HG1.out).trans HI6.out.kp (fun _ _ h => h), ?_⟩
              rw [HE.out]
              have hrow := HI6.out.row.rowAt (by have := HLL.out; simp [big]; omega)
              refine ⟨⟨vo5, vc5, by simp, by simpa using hrow.1, ?_⟩, e1, e2, ?_⟩
              · have h := hrow.2.mono (S' := NV W u6) fun b hb => ⟨Nat.le_trans HG1.out.size hb.1, hb.2⟩
                simpa using h
              · have h : Rd u6 p s (k2 + 1) er := HI6.out.rd
                rw [← e3] at h
                exact h
            | false =>
              replace HQ2 : Hid (R = Option.map (fun y => (l.map (·.1) ++ y.1, y.2)) (match QB.takes [44] (s.data.toList.drop k2) with
                  | none => none
                  | some s2 => match QB.rdItems r m s2 with
                    | none => none
                    | some (vs, s3) => some (v :: vs, s3))) := HQ2
              obtain ⟨b4, hb4⟩ : ∃ b4, [44].isPrefixOf (s.data.toList.drop k2) = b4 := ⟨_, rfl⟩
              have HM4 : Hid (∀ u, Rd u p s k2 er → Calls Tryz.prog 98 #[.pointer (some ⟨p, 0, none⟩), .string ⟨#[44]⟩] u fun e W' => e = .returned (.bool b4) ∧ Keeps u W' (fun z => z = p) ∧ Rd W' p s (if b4 then k2 + 1 else k2) (if b4 then er else 8)) := fun u h => must98 p s ⟨#[44]⟩ b4 u k2 er h (by decide) hb4
              rw [takes_iff, hb4] at HQ2
              clear hb3
              cases b4 with
              | false =>
                have HE : Hid (R = none) := HQ2.out
                clear hb4 HQ2
                go_wp2_with (first
                  | (go_at_call 99; refine HT3.out.mono ?_; rintro e u6 ⟨rfl, hk6, hr6⟩; have HI6 := hidM (HI5.out.next HLT1.out hk6 hr6); clear hk6 hr6; simp only [])
                  | (go_at_call 98; refine (HM4.out _ HI6.out.rd).mono ?_; rintro e u7 ⟨rfl, hk7, hr7⟩; have HK7 := hidM hk7; have HR7 := hidM hr7; clear hk7 hr7; simp only []))
                go_ret2
                refine ⟨((gr_kp HG1.out).trans HI6.out.kp (fun _ _ h => h)).trans HK7.out (fun _ _ h => h), ?_⟩
                rw [HE.out]
                exact ⟨⟨_, _, _, rfl⟩, HR7.out.isBad⟩
              | true =>
                have hlk : k2 + 1 ≤ s.size := pre_lt hb4
                have HE : Hid (R = (QB.rdItems r (4096 - (l.length + 1)) (s.data.toList.drop (k2 + 1))).map fun y => ((l ++ [(v, ko, kc)]).map (·.1) ++ y.1, y.2)) := by
                  show _ = _
                  rw [HQ2.out, if_pos rfl, show 4096 - (l.length + 1) = m by have := HM1.out; omega]
                  simp only [List.drop_drop]
                  show Option.map _ (match QB.rdItems r m (s.data.toList.drop (k2 + 1)) with | none => none | some (vs, s3) => some (v :: vs, s3)) = _
                  cases QB.rdItems r m (s.data.toList.drop (k2 + 1)) with
                  | none => rfl
                  | some x => simp
                have hll : l.length + 1 ≤ 4096 := by have := HM1.out; omega
                clear hb4 HQ2
                go_wp2_with (first
                  | (go_at_call 99; refine HT3.out.mono ?_; rintro e u6 ⟨rfl, hk6, hr6⟩; have HI6 := hidM (HI5.out.next HLT1.out hk6 hr6); clear hk6 hr6; simp only [])
                  | (go_at_call 98; refine (HM4.out _ HI6.out.rd).mono ?_; rintro e u7 ⟨rfl, hk7, hr7⟩; have HI7 := hidM (HI6.out.next HLT1.out hk7 hr7); clear hk7 hr7; simp only []))
                go_roundw
                case rel => exact ⟨k2 + 1, l.length + 1, vo5, vc5, hlk, hll, rfl, l ++ [(v, ko, kc)], by simp, HI7.out, HE.out⟩
                case measure => simp only [lenOf]; omega
end Go.Proofs.YtfoifmacobldbaaGreatDoor.Kit
