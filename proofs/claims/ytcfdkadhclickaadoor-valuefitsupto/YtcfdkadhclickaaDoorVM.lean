import Derived.Test.YtcfdkadhclickaaDoorVG
import Derived.Deep.RegionHeld3
namespace Go.Proofs.YtcfdkadhclickaaDoor.Kit
open Go.RowKit Go.Shelf Go.Deep
set_option linter.unusedVariables false
attribute [local go_sem] run_store_func

/-! ### fitsItems: one field, a value after the other -/
theorem fitsL_drop {r : VT → Int → Option Int} {l : List VT} {k : Nat} (h : k < l.length) (x : Int) : fitsL r (l.drop k) x = (r l[k] x).bind (fitsL r (l.drop (k + 1))) := by
  rw [List.drop_eq_getElem_cons h, fitsL]
set_option maxRecDepth 100000 in
set_option maxHeartbeats 2000000 in
theorem items_any (S : Nat → Prop) (d : Nat) (list : List VT) (k0 : ByteArray) (k1 : Bool) (k2 k3 k4 k5 : Int) (kp : Option Addr) (kn kc : Nat) (vo : Option Addr) (vc : Nat) (w : World) (sb : Nat) (r : VT → Int → Option Int) (hr : Falls r)
    (hS : ∀ b, S b → b < w.heap.size ∧ b ≠ sb) (hv : VRow S w (d + 1) vo list)
    (h47 : ∀ v ao ca, VOk v → VRow S w d ao v.list → FitC w sb 47 (.agg #[.string k0, .bool k1, .int .i64 k2, .int .i64 k3, .int .i64 k4, .int .i64 k5, .slice kp kn kc]) (.agg #[.bool v.nul, .int .i64 v.num, .string v.text, .slice ao v.list.length ca]) (weigh r v)) :
    FitC w sb 90 (.agg #[.string k0, .bool k1, .int .i64 k2, .int .i64 k3, .int .i64 k4, .int .i64 k5, .slice kp kn kc]) (.slice vo list.length vc) (fun l => if list.length ≤ 4096 then fitsL (weigh r) list l else none) := by
  intro W l hs hl0 hl1
  dsimp only
  obtain ⟨x, hx⟩ : ∃ x, x = (if list.length ≤ 4096 then fitsL (weigh r) list l else none) := ⟨_, rfl⟩
  rw [← hx]
  obtain ⟨L, hL⟩ : ∃ L, L = list.length := ⟨_, rfl⟩
  rw [← hL] at hx ⊢
  have hLb : L ≤ 1000000000000 := by rw [hL]; exact hv.len
  have HLE := hidM hL
  have HS := hidM hs.self
  have HK := hidM hs.kp
  have HR := hidM hr
  have HB := hidM hS
  have HV := hidM hv
  have H47 := hidM h47
  have HL := hidM (And.intro hl0 hl1)
  have hlt := hs.lt
  have hne : Hid (W.heap.size ≠ sb) := by show _ ≠ _; omega
  have hb7 : Hid (B7 (W.alloc (.cells #[.string k0, .bool k1, .int .i64 k2, .int .i64 k3, .int .i64 k4, .int .i64 k5, .slice kp kn kc] 26)) W.heap.size k0 k1 k2 k3 k4 k5 kp kn kc) := heap_alloc_new W _
  clear hs hr hS hv h47 hl0 hl1 hlt hL
  by_cases hm : L ≤ 4096
  · rw [if_pos hm] at hx
    have HX := hidM hx
    clear hx
    go_enter Tryd.func90, Tryd.ntmps90
    go_wp2
    obtain ⟨W1, hW1⟩ : ∃ W1, W.alloc (.cells #[.string k0, .bool k1, .int .i64 k2, .int .i64 k3, .int .i64 k4, .int .i64 k5, .slice kp kn kc] 26) = W1 := ⟨_, rfl⟩
    have HS1 : Hid (Sc W W1 sb l) := by rw [← hW1]; exact HS.out.alloc _
    rw [hW1] at hb7 ⊢
    clear hW1 HS
    go_loopw [14] (fun p wr => ∃ k : Nat, k ≤ L ∧ p = .int .i64 (k : Int) ∧ Hid (∃ l', Sc W1 wr sb l' ∧ 0 ≤ l' ∧ l' ≤ 4194304 ∧ x = fitsL (weigh r) (list.drop k) l')) (fun p _ => L - (intOf p).toNat)
    case atStart => exact ⟨0, by omega, rfl, l, HS1.out.self, HL.out.1, HL.out.2, by rw [HX.out]; rfl⟩
    case round =>
      obtain ⟨k, hk, rfl, HI⟩ := hrel
      obtain ⟨l', hs', h0', h1', hx'⟩ := HI.out
      have HS' := hidM hs'
      have HL' := hidM (And.intro h0' h1')
      clear HI
      by_cases hlt : k < L
      · have hkl : k < list.length := by have := HLE.out; omega
        obtain ⟨b, o, rfl, hb, hcs⟩ := HV.out.2 (fun e => by subst e; simp at hkl)
        obtain ⟨ao', ca', hc, hle, hok, hrow⟩ := hcs k hkl
        have hcall := H47.out list[k] ao' ca' hok hrow
        rw [fitsL_drop hkl] at hx'
        obtain ⟨v, hve⟩ : ∃ v, v = list[k]'hkl := ⟨_, rfl⟩
        rw [← hve] at hcall hx' hc
        have hk1 : Sc w wr sb l' := (hs'.base HS1.out.kp).base HK.out
        have hcw := hc.kept (hk1.kp.block b (HB.out b hb).1 (HB.out b hb).2)
        obtain ⟨c0, c1, c2, c3⟩ := hcw
        have b7 : B7 wr W.heap.size k0 k1 k2 k3 k4 k5 kp kn kc := (hs'.kp.block _ (lt_of_heap hb7.out) hne.out).trans hb7.out
        obtain ⟨p0, p1, p2, p3, p4, p5, p6⟩ := b7.cells
        have p0 := fun o => (gr_alloc wr o).cell' p0 id
        have p1 := fun o => (gr_alloc wr o).cell' p1 id
        have p2 := fun o => (gr_alloc wr o).cell' p2 id
        have p3 := fun o => (gr_alloc wr o).cell' p3 id
        have p4 := fun o => (gr_alloc wr o).cell' p4 id
        have p5 := fun o => (gr_alloc wr o).cell' p5 id
        have p6 := fun o => (gr_alloc wr o).cell' p6 id
        have HC := hidM hcall
        have HK1 := hidM hk1
        have hltI : (k : Int) < (L : Int) := by omega
        have HF := hidM (fun l1 (h : weigh r v l' = some l1) => HR.out.weigh v l' l1 h0' h)
        obtain ⟨y, hy⟩ : ∃ y, y = weigh r v l' := ⟨_, rfl⟩
        rw [← hy] at hx' HF
        have HX' := hidM hx'
        have HY := hidM hy
        clear hcs hc hok hrow hcall hs' h0' h1' hx' hk1 b7 hve hy hle
        cases y with
        | some l2 =>
          go_wp2_with (go_at_call 47; refine Hid.out ?_)
          unfold Hid
          refine Calls.mono (HC.out _ _ (HK1.out.alloc _) HL'.out.1 HL'.out.2) ?_
          rintro e w2 ⟨l3, rfl, hs3, hl3⟩
          have hl3 := hl3 l2 HY.out.symm
          subst hl3
          rw [← HY.out]
          have HE := hidM hs3
          clear hs3
          go_wp2_with fail
          go_roundw
          case rel =>
            have := HF.out l3 rfl
            exact ⟨k + 1, by omega, by simp, l3, HE.out.base (HS'.out.alloc _).kp, this.1, by have := HL'.out.2; omega, HX'.out⟩
          case measure => simp [intOf]; omega
        | none =>
          go_wp2_with (go_at_call 47; refine Hid.out ?_)
          unfold Hid
          refine Calls.mono (HC.out _ _ (HK1.out.alloc _) HL'.out.1 HL'.out.2) ?_
          rintro e w2 ⟨l3, rfl, hs3, hl3⟩
          rw [← HY.out]
          have HE := hidM hs3
          clear hs3 hl3
          go_wp2_with fail
          go_ret
          exact .no HX'.out rfl (HE.out.base ((HS'.out.alloc _).base HS1.out.kp).kp)
      · have hkL : k = L := by omega
        subst hkL
        have HX' : Hid (x = some l') := by
          show x = some l'
          rw [hx', List.drop_of_length_le (by have := HLE.out; omega)]
          rfl
        clear hx' hs' h0' h1'
        go_wp2
        go_ret
        exact .yes HX'.out rfl (HS'.out.base HS1.out.kp)
  · rw [if_neg hm] at hx
    have HX := hidM hx
    have hmI : (4096 : Int) < (L : Int) := by omega
    clear hx
    go_enter Tryd.func90, Tryd.ntmps90
    go_wp2
    go_ret
    exact .no HX.out rfl (HS.out.alloc _)
end Go.Proofs.YtcfdkadhclickaaDoor.Kit
namespace Go.Proofs.YtcfdkadhclickaaDoor.Kit
open Go.RowKit Go.Shelf Go.Deep
set_option linter.unusedVariables false
attribute [local go_sem] run_store_func

/-! ### fitsParts: a field each -/
theorem fitsP_drop {r : FT → VT → Int → Option Int} {fs : List FT} {l : List VT} {k : Nat} (hf : k < fs.length) (h : k < l.length) (x : Int) : fitsP r (fs.drop k) (l.drop k) x = (r fs[k] l[k] x).bind (fitsP r (fs.drop (k + 1)) (l.drop (k + 1))) := by
  rw [List.drop_eq_getElem_cons h, List.drop_eq_getElem_cons hf, fitsP]
theorem keep11 {V v1 : World} {sb : Nat} {l : Int} {b kb ko : Nat} {y0 y1 y2 y3 c0 c1 c2 c3 c4 c5 c6 : Value} (h : Sc V v1 sb l) (hb : b ≠ sb) (hk : kb ≠ sb)
    (hc : V.cell? ⟨b, 0, none⟩ = some y0 ∧ V.cell? ⟨b, 1, none⟩ = some y1 ∧ V.cell? ⟨b, 2, none⟩ = some y2 ∧ V.cell? ⟨b, 3, none⟩ = some y3 ∧ V.cell? ⟨kb, ko, none⟩ = some c0 ∧ V.cell? ⟨kb, ko + 1, none⟩ = some c1 ∧ V.cell? ⟨kb, ko + 2, none⟩ = some c2 ∧ V.cell? ⟨kb, ko + 3, none⟩ = some c3 ∧ V.cell? ⟨kb, ko + 4, none⟩ = some c4 ∧ V.cell? ⟨kb, ko + 5, none⟩ = some c5 ∧ V.cell? ⟨kb, ko + 6, none⟩ = some c6) :
    v1.cell? ⟨b, 0, none⟩ = some y0 ∧ v1.cell? ⟨b, 1, none⟩ = some y1 ∧ v1.cell? ⟨b, 2, none⟩ = some y2 ∧ v1.cell? ⟨b, 3, none⟩ = some y3 ∧ v1.cell? ⟨kb, ko, none⟩ = some c0 ∧ v1.cell? ⟨kb, ko + 1, none⟩ = some c1 ∧ v1.cell? ⟨kb, ko + 2, none⟩ = some c2 ∧ v1.cell? ⟨kb, ko + 3, none⟩ = some c3 ∧ v1.cell? ⟨kb, ko + 4, none⟩ = some c4 ∧ v1.cell? ⟨kb, ko + 5, none⟩ = some c5 ∧ v1.cell? ⟨kb, ko + 6, none⟩ = some c6 :=
  ⟨h.other hc.1 hb, h.other hc.2.1 hb, h.other hc.2.2.1 hb, h.other hc.2.2.2.1 hb, h.other hc.2.2.2.2.1 hk, h.other hc.2.2.2.2.2.1 hk, h.other hc.2.2.2.2.2.2.1 hk, h.other hc.2.2.2.2.2.2.2.1 hk, h.other hc.2.2.2.2.2.2.2.2.1 hk, h.other hc.2.2.2.2.2.2.2.2.2.1 hk, h.other hc.2.2.2.2.2.2.2.2.2.2 hk⟩
set_option maxRecDepth 100000 in
set_option maxHeartbeats 2000000 in
theorem parts_any (S : Nat → Prop) (D d : Nat) (fs : List FT) (list : List VT) (ao : Option Addr) (ca : Nat) (vo : Option Addr) (vc : Nat) (w : World) (sb : Nat) (rr : FT → VT → Int → Option Int) (hr : ∀ g, Falls (rr g))
    (hS : ∀ b, S b → b < w.heap.size ∧ b ≠ sb) (hf : RowAt S w (D + 1) ao fs) (hv : VRow S w (d + 1) vo list)
    (h47 : ∀ (g : FT) (go : Option Addr) (gc : Nat), g ∈ fs → g.kids.length ≤ gc → RowAt S w D go g.kids → ∀ v ao ca, VOk v → VRow S w d ao v.list → FitC w sb 47 (.agg #[.string g.name, .bool g.nul, .int .i64 g.kind, .int .i64 g.width, .int .i64 g.id, .int .i64 g.index, .slice go g.kids.length gc]) (.agg #[.bool v.nul, .int .i64 v.num, .string v.text, .slice ao v.list.length ca]) (weigh (rr g) v)) :
    FitC w sb 91 (.slice ao fs.length ca) (.slice vo list.length vc) (fun l => if list.length = fs.length then fitsP (fun g => weigh (rr g)) fs list l else none) := by
  intro W l hs hl0 hl1
  dsimp only
  obtain ⟨x, hx⟩ : ∃ x, x = (if list.length = fs.length then fitsP (fun g => weigh (rr g)) fs list l else none) := ⟨_, rfl⟩
  rw [← hx]
  obtain ⟨L, hL⟩ : ∃ L, L = list.length := ⟨_, rfl⟩
  obtain ⟨M, hM⟩ : ∃ M, M = fs.length := ⟨_, rfl⟩
  rw [← hL] at hx ⊢
  rw [← hM] at hx ⊢
  have hLb : L ≤ 1000000000000 := by rw [hL]; exact hv.len
  have hMb : M ≤ 1000000000000 := by rw [hM]; exact hf.len
  have HLE := hidM (And.intro hL hM)
  have HS := hidM hs.self
  have HK := hidM hs.kp
  have HR := hidM hr
  have HB := hidM hS
  have HV := hidM hv
  have HFD := hidM hf
  have H47 := hidM h47
  have HL := hidM (And.intro hl0 hl1)
  have hlt0 := hidM hs.lt
  clear hs hr hS hv hf h47 hl0 hl1 hL hM
  by_cases hm : L = M
  · rw [if_pos hm] at hx
    have HX := hidM hx
    clear hx
    subst hm
    go_enter Tryd.func91, Tryd.ntmps91
    go_wp2
    go_loopw [16] (fun p wr => ∃ k : Nat, k ≤ L ∧ p = .int .i64 (k : Int) ∧ Hid (∃ l', Sc W wr sb l' ∧ 0 ≤ l' ∧ l' ≤ 4194304 ∧ x = fitsP (fun g => weigh (rr g)) (fs.drop k) (list.drop k) l')) (fun p _ => L - (intOf p).toNat)
    case atStart => exact ⟨0, by omega, rfl, l, HS.out, HL.out.1, HL.out.2, by rw [HX.out]; rfl⟩
    case round =>
      obtain ⟨k, hk, rfl, HI⟩ := hrel
      obtain ⟨l', hs', h0', h1', hx'⟩ := HI.out
      have HS' := hidM hs'
      have HL' := hidM (And.intro h0' h1')
      clear HI
      by_cases hlt : k < L
      · have hkl : k < list.length := by have := HLE.out; omega
        have hkf : k < fs.length := by have := HLE.out; omega
        obtain ⟨b, o, rfl, hb, hcs⟩ := HV.out.2 (fun e => by subst e; simp at hkl)
        obtain ⟨ao', ca', hc, hle, hok, hrow⟩ := hcs k hkl
        obtain ⟨fb, fo, rfl, hfb, hfs⟩ := HFD.out.2 (fun e => by subst e; simp at hkf)
        obtain ⟨go, gc, hg, hgle, hgrow⟩ := hfs k hkf
        have hcall := H47.out fs[k] go gc (List.getElem_mem hkf) hgle hgrow list[k] ao' ca' hok hrow
        rw [fitsP_drop hkf hkl] at hx'
        obtain ⟨v, hve⟩ : ∃ v, v = list[k]'hkl := ⟨_, rfl⟩
        obtain ⟨g, hge⟩ : ∃ g, g = fs[k]'hkf := ⟨_, rfl⟩
        rw [← hve] at hcall hx' hc
        rw [← hge] at hcall hx' hg
        have hk1 : Sc w wr sb l' := hs'.base HK.out
        have hcw := hc.kept (hk1.kp.block b (HB.out b hb).1 (HB.out b hb).2)
        have hgw := hg.kept (hk1.kp.block fb (HB.out fb hfb).1 (HB.out fb hfb).2)
        obtain ⟨c0, c1, c2, c3⟩ := hcw
        obtain ⟨V, hV⟩ : ∃ V, wr.alloc (.cells #[.bool v.nul, .int .i64 v.num, .string v.text, .slice ao' v.list.length ca'] 29) = V := ⟨_, rfl⟩
        have gv : Gr wr V := by rw [← hV]; exact gr_alloc wr _
        have b4 : B4 V wr.heap.size v.nul v.num v.text ao' v.list.length ca' := by unfold B4; rw [← hV]; exact heap_alloc_new wr _
        obtain ⟨e0, e1, e2, e3⟩ := b4.cells
        have hgv := hgw.kept (gv.block fb (Nat.lt_of_lt_of_le (HB.out fb hfb).1 hk1.kp.size) id)
        have HC : Hid (V.drew.cell? ⟨wr.heap.size, 0, none⟩ = some (.bool v.nul) ∧ V.drew.cell? ⟨wr.heap.size, 1, none⟩ = some (.int .i64 v.num) ∧ V.drew.cell? ⟨wr.heap.size, 2, none⟩ = some (.string v.text) ∧ V.drew.cell? ⟨wr.heap.size, 3, none⟩ = some (.slice ao' v.list.length ca') ∧ V.drew.cell? ⟨fb, fo + k * 7, none⟩ = some (.string g.name) ∧ V.drew.cell? ⟨fb, fo + k * 7 + 1, none⟩ = some (.bool g.nul) ∧ V.drew.cell? ⟨fb, fo + k * 7 + 2, none⟩ = some (.int .i64 g.kind) ∧ V.drew.cell? ⟨fb, fo + k * 7 + 3, none⟩ = some (.int .i64 g.width) ∧ V.drew.cell? ⟨fb, fo + k * 7 + 4, none⟩ = some (.int .i64 g.id) ∧ V.drew.cell? ⟨fb, fo + k * 7 + 5, none⟩ = some (.int .i64 g.index) ∧ V.drew.cell? ⟨fb, fo + k * 7 + 6, none⟩ = some (.slice go g.kids.length gc)) := ⟨e0, e1, e2, e3, hgv.c0, hgv.c1, hgv.c2, hgv.c3, hgv.c4, hgv.c5, hgv.c6⟩
        have HCL := hidM hcall
        have HK1 := hidM (hk1.gr gv)
        have HG := hidM gv
        have hN : Hid (wr.heap.size ≠ sb ∧ fb ≠ sb) := ⟨by have := hs'.lt; omega, (HB.out fb hfb).2⟩
        have hltI : (k : Int) < (L : Int) := by omega
        have HF := hidM (fun l1 (h : weigh (rr g) v l' = some l1) => (HR.out g).weigh v l' l1 h0' h)
        obtain ⟨y, hy⟩ : ∃ y, y = weigh (rr g) v l' := ⟨_, rfl⟩
        rw [← hy] at hx' HF
        have HX' := hidM hx'
        have HY := hidM hy
        clear hcs hc hok hrow hcall hs' h0' h1' hx' hk1 b4 hve hy hle hfs hg hgle hgrow hgw gv e0 e1 e2 e3 hgv hge
        go_wp2
        clear hV
        cases y with
        | some l2 =>
          go_region_held3 (fun w' => w'.cell? ⟨wr.heap.size, 0, none⟩ = some (.bool v.nul) ∧ w'.cell? ⟨wr.heap.size, 1, none⟩ = some (.int .i64 v.num) ∧ w'.cell? ⟨wr.heap.size, 2, none⟩ = some (.string v.text) ∧ w'.cell? ⟨wr.heap.size, 3, none⟩ = some (.slice ao' v.list.length ca') ∧ w'.cell? ⟨fb, fo + k * 7, none⟩ = some (.string g.name) ∧ w'.cell? ⟨fb, fo + k * 7 + 1, none⟩ = some (.bool g.nul) ∧ w'.cell? ⟨fb, fo + k * 7 + 2, none⟩ = some (.int .i64 g.kind) ∧ w'.cell? ⟨fb, fo + k * 7 + 3, none⟩ = some (.int .i64 g.width) ∧ w'.cell? ⟨fb, fo + k * 7 + 4, none⟩ = some (.int .i64 g.id) ∧ w'.cell? ⟨fb, fo + k * 7 + 5, none⟩ = some (.int .i64 g.index) ∧ w'.cell? ⟨fb, fo + k * 7 + 6, none⟩ = some (.slice go g.kids.length gc)) (first | with_reducible exact HC.out | with_reducible exact keep11 HE.out hN.out.1 hN.out.2 HC.out) ((go_at_call 47; refine Calls.mono (HCL.out _ _ HK1.out.drew HL'.out.1 HL'.out.2) ?_; rintro e v1' ⟨l3, rfl, hs3, hl3⟩; have hl3 := hl3 l2 HY.out.symm; subst hl3; rw [← HY.out]; have HE := hidM hs3; clear hs3))
          all_goals
            go_wp2_with fail
            go_roundw
            case rel =>
              have := HF.out l3 rfl
              exact ⟨k + 1, by omega, by simp, l3, HE.out.base (HS'.out.gr HG.out).drew.kp, this.1, by have := HL'.out.2; omega, HX'.out⟩
            case measure => simp [intOf]; omega
        | none =>
          go_region_held3 (fun w' => w'.cell? ⟨wr.heap.size, 0, none⟩ = some (.bool v.nul) ∧ w'.cell? ⟨wr.heap.size, 1, none⟩ = some (.int .i64 v.num) ∧ w'.cell? ⟨wr.heap.size, 2, none⟩ = some (.string v.text) ∧ w'.cell? ⟨wr.heap.size, 3, none⟩ = some (.slice ao' v.list.length ca') ∧ w'.cell? ⟨fb, fo + k * 7, none⟩ = some (.string g.name) ∧ w'.cell? ⟨fb, fo + k * 7 + 1, none⟩ = some (.bool g.nul) ∧ w'.cell? ⟨fb, fo + k * 7 + 2, none⟩ = some (.int .i64 g.kind) ∧ w'.cell? ⟨fb, fo + k * 7 + 3, none⟩ = some (.int .i64 g.width) ∧ w'.cell? ⟨fb, fo + k * 7 + 4, none⟩ = some (.int .i64 g.id) ∧ w'.cell? ⟨fb, fo + k * 7 + 5, none⟩ = some (.int .i64 g.index) ∧ w'.cell? ⟨fb, fo + k * 7 + 6, none⟩ = some (.slice go g.kids.length gc)) (first | with_reducible exact HC.out | with_reducible exact keep11 HE.out hN.out.1 hN.out.2 HC.out) ((go_at_call 47; refine Calls.mono (HCL.out _ _ HK1.out.drew HL'.out.1 HL'.out.2) ?_; rintro e v1' ⟨l3, rfl, hs3, hl3⟩; rw [← HY.out]; have HE := hidM hs3; clear hs3 hl3))
          all_goals
            go_wp2_with fail
            go_ret
            exact .no HX'.out rfl (HE.out.base (HS'.out.gr HG.out).drew.kp)
      · have hkL : k = L := by omega
        subst hkL
        have HX' : Hid (x = some l') := by
          show x = some l'
          rw [hx', List.drop_of_length_le (by have := HLE.out; omega)]
          cases (fs.drop k) <;> rfl
        clear hx' hs' h0' h1'
        go_wp2
        go_ret
        exact .yes HX'.out rfl HS'.out
  · rw [if_neg hm] at hx
    have HX := hidM hx
    have hmI : ((L : Int) == (M : Int)) = false := by simp; omega
    clear hx
    go_enter Tryd.func91, Tryd.ntmps91
    go_wp2
    go_ret
    exact .no HX.out rfl HS.out
end Go.Proofs.YtcfdkadhclickaaDoor.Kit
namespace Go.Proofs.YtcfdkadhclickaaDoor.Kit
open Go.RowKit Go.Shelf Go.Deep
set_option linter.unusedVariables false
attribute [local go_sem] run_store_func

/-! ### fitsChoice -/
theorem keep13 {V v1 : World} {sb : Nat} {l : Int} {b eb eo kb ko : Nat} {y1 y3 e0 e1 e2 e3 c0 c1 c2 c3 c4 c5 c6 : Value} (h : Sc V v1 sb l) (hb : b ≠ sb) (he : eb ≠ sb) (hk : kb ≠ sb)
    (hc : V.cell? ⟨b, 1, none⟩ = some y1 ∧ V.cell? ⟨b, 3, none⟩ = some y3 ∧ V.cell? ⟨eb, eo, none⟩ = some e0 ∧ V.cell? ⟨eb, eo + 1, none⟩ = some e1 ∧ V.cell? ⟨eb, eo + 2, none⟩ = some e2 ∧ V.cell? ⟨eb, eo + 3, none⟩ = some e3 ∧ V.cell? ⟨kb, ko, none⟩ = some c0 ∧ V.cell? ⟨kb, ko + 1, none⟩ = some c1 ∧ V.cell? ⟨kb, ko + 2, none⟩ = some c2 ∧ V.cell? ⟨kb, ko + 3, none⟩ = some c3 ∧ V.cell? ⟨kb, ko + 4, none⟩ = some c4 ∧ V.cell? ⟨kb, ko + 5, none⟩ = some c5 ∧ V.cell? ⟨kb, ko + 6, none⟩ = some c6) :
    v1.cell? ⟨b, 1, none⟩ = some y1 ∧ v1.cell? ⟨b, 3, none⟩ = some y3 ∧ v1.cell? ⟨eb, eo, none⟩ = some e0 ∧ v1.cell? ⟨eb, eo + 1, none⟩ = some e1 ∧ v1.cell? ⟨eb, eo + 2, none⟩ = some e2 ∧ v1.cell? ⟨eb, eo + 3, none⟩ = some e3 ∧ v1.cell? ⟨kb, ko, none⟩ = some c0 ∧ v1.cell? ⟨kb, ko + 1, none⟩ = some c1 ∧ v1.cell? ⟨kb, ko + 2, none⟩ = some c2 ∧ v1.cell? ⟨kb, ko + 3, none⟩ = some c3 ∧ v1.cell? ⟨kb, ko + 4, none⟩ = some c4 ∧ v1.cell? ⟨kb, ko + 5, none⟩ = some c5 ∧ v1.cell? ⟨kb, ko + 6, none⟩ = some c6 :=
  ⟨h.other hc.1 hb, h.other hc.2.1 hb, h.other hc.2.2.1 he, h.other hc.2.2.2.1 he, h.other hc.2.2.2.2.1 he, h.other hc.2.2.2.2.2.1 he, h.other hc.2.2.2.2.2.2.1 hk, h.other hc.2.2.2.2.2.2.2.1 hk, h.other hc.2.2.2.2.2.2.2.2.1 hk, h.other hc.2.2.2.2.2.2.2.2.2.1 hk, h.other hc.2.2.2.2.2.2.2.2.2.2.1 hk, h.other hc.2.2.2.2.2.2.2.2.2.2.2.1 hk, h.other hc.2.2.2.2.2.2.2.2.2.2.2.2 hk⟩
set_option maxRecDepth 100000 in
set_option maxHeartbeats 2000000 in
theorem choice_yes (v0 : Bool) (v2 : ByteArray) (vc : Nat) (j n ca kb ko eb eo : Nat) (k0 : ByteArray) (k1 : Bool) (k2 k3 k4 k5 : Int) (kp : Option Addr) (kn kc : Nat) (e0 : Bool) (e1 : Int) (e2 : ByteArray) (ep : Option Addr) (en ec : Nat) (w W : World) (sb : Nat) (l : Int) (x : Option Int) (r : Int → Option Int)
    (hs : Sc w W sb l) (hl0 : 0 ≤ l) (hl : l ≤ 4194304) (hj : j < n) (hn : n ≤ 1000000000000) (hx : x = r l) (hkb : kb ≠ sb) (heb : eb ≠ sb) (g0 : W.cell? ⟨kb, ko + j * 7, none⟩ = some (.string k0)) (g1 : W.cell? ⟨kb, ko + j * 7 + 1, none⟩ = some (.bool k1)) (g2 : W.cell? ⟨kb, ko + j * 7 + 2, none⟩ = some (.int .i64 k2)) (g3 : W.cell? ⟨kb, ko + j * 7 + 3, none⟩ = some (.int .i64 k3)) (g4 : W.cell? ⟨kb, ko + j * 7 + 4, none⟩ = some (.int .i64 k4)) (g5 : W.cell? ⟨kb, ko + j * 7 + 5, none⟩ = some (.int .i64 k5)) (g6 : W.cell? ⟨kb, ko + j * 7 + 6, none⟩ = some (.slice kp kn kc)) (d0 : W.cell? ⟨eb, eo, none⟩ = some (.bool e0)) (d1 : W.cell? ⟨eb, eo + 1, none⟩ = some (.int .i64 e1)) (d2 : W.cell? ⟨eb, eo + 2, none⟩ = some (.string e2)) (d3 : W.cell? ⟨eb, eo + 3, none⟩ = some (.slice ep en ec)) (hF : FitC w sb 47 (.agg #[.string k0, .bool k1, .int .i64 k2, .int .i64 k3, .int .i64 k4, .int .i64 k5, .slice kp kn kc]) (.agg #[.bool e0, .int .i64 e1, .string e2, .slice ep en ec]) r) :
    Calls Tryd.prog 92 #[.pointer (some ⟨sb, 0, none⟩), .slice (some ⟨kb, ko, none⟩) n ca, .agg #[.bool v0, .int .i64 (j : Int), .string v2, .slice (some ⟨eb, eo, none⟩) 1 vc]] W fun e w' => FitQ W sb x e w' := by
  obtain ⟨V, hV⟩ : ∃ V, W.alloc (.cells #[.bool v0, .int .i64 (j : Int), .string v2, .slice (some ⟨eb, eo, none⟩) 1 vc] 29) = V := ⟨_, rfl⟩
  have gr : Gr W V := by rw [← hV]; exact gr_alloc W _
  have b4 : B4 V W.heap.size v0 (j : Int) v2 (some ⟨eb, eo, none⟩) 1 vc := by unfold B4; rw [← hV]; exact heap_alloc_new W _
  obtain ⟨p0, p1, p2, p3⟩ := b4.cells
  have g0 := gr.cell' g0 id
  have g1 := gr.cell' g1 id
  have g2 := gr.cell' g2 id
  have g3 := gr.cell' g3 id
  have g4 := gr.cell' g4 id
  have g5 := gr.cell' g5 id
  have g6 := gr.cell' g6 id
  have d0 := gr.cell' d0 id
  have d1 := gr.cell' d1 id
  have d2 := gr.cell' d2 id
  have d3 := gr.cell' d3 id
  have HS := hidM (hs.self.gr gr)
  have HK := hidM hs.kp
  have HF := hidM hF
  have HX := hidM hx
  have hjI : (j : Int) < (n : Int) := by omega
  have hj0 : (0 : Int) ≤ (j : Int) := by omega
  have hlt := hs.lt
  have hN := hidM (And.intro (show W.heap.size ≠ sb by omega) (And.intro heb hkb))
  have HC : Hid (V.drew.cell? ⟨W.heap.size, 1, none⟩ = some (.int .i64 (j : Int)) ∧ V.drew.cell? ⟨W.heap.size, 3, none⟩ = some (.slice (some ⟨eb, eo, none⟩) 1 vc) ∧ V.drew.cell? ⟨eb, eo, none⟩ = some (.bool e0) ∧ V.drew.cell? ⟨eb, eo + 1, none⟩ = some (.int .i64 e1) ∧ V.drew.cell? ⟨eb, eo + 2, none⟩ = some (.string e2) ∧ V.drew.cell? ⟨eb, eo + 3, none⟩ = some (.slice ep en ec) ∧ V.drew.cell? ⟨kb, ko + j * 7, none⟩ = some (.string k0) ∧ V.drew.cell? ⟨kb, ko + j * 7 + 1, none⟩ = some (.bool k1) ∧ V.drew.cell? ⟨kb, ko + j * 7 + 2, none⟩ = some (.int .i64 k2) ∧ V.drew.cell? ⟨kb, ko + j * 7 + 3, none⟩ = some (.int .i64 k3) ∧ V.drew.cell? ⟨kb, ko + j * 7 + 4, none⟩ = some (.int .i64 k4) ∧ V.drew.cell? ⟨kb, ko + j * 7 + 5, none⟩ = some (.int .i64 k5) ∧ V.drew.cell? ⟨kb, ko + j * 7 + 6, none⟩ = some (.slice kp kn kc)) := ⟨p1, p3, d0, d1, d2, d3, g0, g1, g2, g3, g4, g5, g6⟩
  have HL := hidM (And.intro hl0 hl)
  clear b4 gr hs hF hx p0 p2 hlt hkb heb hl0 hl
  go_enter Tryd.func92, Tryd.ntmps92
  go_wp2
  clear hV p1 p3 g0 g1 g2 g3 g4 g5 g6 d0 d1 d2 d3
  go_region_held3 (fun w' => w'.cell? ⟨W.heap.size, 1, none⟩ = some (.int .i64 (j : Int)) ∧ w'.cell? ⟨W.heap.size, 3, none⟩ = some (.slice (some ⟨eb, eo, none⟩) 1 vc) ∧ w'.cell? ⟨eb, eo, none⟩ = some (.bool e0) ∧ w'.cell? ⟨eb, eo + 1, none⟩ = some (.int .i64 e1) ∧ w'.cell? ⟨eb, eo + 2, none⟩ = some (.string e2) ∧ w'.cell? ⟨eb, eo + 3, none⟩ = some (.slice ep en ec) ∧ w'.cell? ⟨kb, ko + j * 7, none⟩ = some (.string k0) ∧ w'.cell? ⟨kb, ko + j * 7 + 1, none⟩ = some (.bool k1) ∧ w'.cell? ⟨kb, ko + j * 7 + 2, none⟩ = some (.int .i64 k2) ∧ w'.cell? ⟨kb, ko + j * 7 + 3, none⟩ = some (.int .i64 k3) ∧ w'.cell? ⟨kb, ko + j * 7 + 4, none⟩ = some (.int .i64 k4) ∧ w'.cell? ⟨kb, ko + j * 7 + 5, none⟩ = some (.int .i64 k5) ∧ w'.cell? ⟨kb, ko + j * 7 + 6, none⟩ = some (.slice kp kn kc)) (first | with_reducible exact HC.out | with_reducible exact keep13 HE.out.1 hN.out.1 hN.out.2.1 hN.out.2.2 HC.out) ((go_at_call 47; refine Calls.mono (HF.out _ _ ((HS.out.drew).base HK.out) HL.out.1 HL.out.2) ?_; rintro e v1' ⟨l', rfl, hs', hr⟩; have HE := hidM (And.intro hs' hr); clear hs' hr))
  all_goals
    go_wp2_with fail
    go_ret
    exact .of HX.out rfl (HE.out.1.base HS.out.drew.kp) HE.out.2
set_option maxRecDepth 100000 in
set_option maxHeartbeats 2000000 in
theorem choice_no (v0 : Bool) (v1 : Int) (v2 : ByteArray) (vo : Option Addr) (m vc : Nat) (ao : Option Addr) (n ca : Nat) (w W : World) (sb : Nat) (l : Int) (x : Option Int) (hs : Sc w W sb l) (hn : n ≤ 1000000000000) (hm : m ≤ 1000000000000) (hc : v1 < 0 ∨ (0 ≤ v1 ∧ (n : Int) ≤ v1) ∨ (0 ≤ v1 ∧ v1 < (n : Int) ∧ m ≠ 1)) (hx : x = none) :
    Calls Tryd.prog 92 #[.pointer (some ⟨sb, 0, none⟩), .slice ao n ca, .agg #[.bool v0, .int .i64 v1, .string v2, .slice vo m vc]] W fun e w' => FitQ W sb x e w' := by
  have HS := hidM hs.self
  have HX := hidM hx
  clear hs hx
  rcases hc with h1 | ⟨h1, h2⟩ | ⟨h1, h2, h3⟩
  · have h1 : decide (0 ≤ v1) = false := by simp; omega
    go_enter Tryd.func92, Tryd.ntmps92
    go_wp2
    go_region
    all_goals
      go_wp2
      go_ret
      exact .no HX.out rfl (HS.out.alloc _).drew
  · have h1 : decide (0 ≤ v1) = true := by simp; omega
    have h2 : decide (v1 < (n : Int)) = false := by simp; omega
    go_enter Tryd.func92, Tryd.ntmps92
    go_wp2
    go_region
    all_goals
      go_wp2
      go_ret
      exact .no HX.out rfl (HS.out.alloc _).drew
  · have h1 : decide (0 ≤ v1) = true := by simp; omega
    have h2 : decide (v1 < (n : Int)) = true := by simp; omega
    have h3 : ((m : Int) == 1) = false := by simp; omega
    go_enter Tryd.func92, Tryd.ntmps92
    go_wp2
    go_region
    all_goals
      go_wp2
      go_ret
      exact .no HX.out rfl (HS.out.alloc _).drew
end Go.Proofs.YtcfdkadhclickaaDoor.Kit
