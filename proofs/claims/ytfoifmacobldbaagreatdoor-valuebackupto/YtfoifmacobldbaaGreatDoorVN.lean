import Derived.Test.YtfoifmacobldbaaGreatDoorVK
import Derived.Test.YtfoifmacobldbaaGreatDoorTA
import Derived.Deep.RegionHeld3
import Derived.Test.YtfoifmacobldbaaGreatDoorVI
set_option maxRecDepth 100000
set_option maxHeartbeats 4000000
namespace Go.Proofs.YtfoifmacobldbaaGreatDoor.Kit
open Go.RowKit Go.Shelf Go.Deep
set_option linter.unusedVariables false
attribute [local go_sem] run_store_func
/-! ### fitsParts: a field each -/
theorem fitsP_drop {r : FT → VT → Int → Option Int} {fs : List FT} {l : List VT} {k : Nat} (hf : k < fs.length) (h : k < l.length) (x : Int) : fitsP r (fs.drop k) (l.drop k) x = (r fs[k] l[k] x).bind (fitsP r (fs.drop (k + 1)) (l.drop (k + 1))) := by
  rw [List.drop_eq_getElem_cons h, List.drop_eq_getElem_cons hf, fitsP]
theorem keep11 {V v1 : World} {sb : Nat} {l : Int} {b kb ko : Nat} {y0 y1 y2 y3 c0 c1 c2 c3 c4 c5 c6 : Value} (h : Sc V v1 sb l) (hb : b ≠ sb) (hk : kb ≠ sb)
    (hc : V.cell? ⟨b, 0, none⟩ = some y0 ∧ V.cell? ⟨b, 1, none⟩ = some y1 ∧ V.cell? ⟨b, 2, none⟩ = some y2 ∧ V.cell? ⟨b, 3, none⟩ = some y3 ∧ V.cell? ⟨kb, ko, none⟩ = some c0 ∧ V.cell? ⟨kb, ko + 1, none⟩ = some c1 ∧ V.cell? ⟨kb, ko + 2, none⟩ = some c2 ∧ V.cell? ⟨kb, ko + 3, none⟩ = some c3 ∧ V.cell? ⟨kb, ko + 4, none⟩ = some c4 ∧ V.cell? ⟨kb, ko + 5, none⟩ = some c5 ∧ V.cell? ⟨kb, ko + 6, none⟩ = some c6) :
    v1.cell? ⟨b, 0, none⟩ = some y0 ∧ v1.cell? ⟨b, 1, none⟩ = some y1 ∧ v1.cell? ⟨b, 2, none⟩ = some y2 ∧ v1.cell? ⟨b, 3, none⟩ = some y3 ∧ v1.cell? ⟨kb, ko, none⟩ = some c0 ∧ v1.cell? ⟨kb, ko + 1, none⟩ = some c1 ∧ v1.cell? ⟨kb, ko + 2, none⟩ = some c2 ∧ v1.cell? ⟨kb, ko + 3, none⟩ = some c3 ∧ v1.cell? ⟨kb, ko + 4, none⟩ = some c4 ∧ v1.cell? ⟨kb, ko + 5, none⟩ = some c5 ∧ v1.cell? ⟨kb, ko + 6, none⟩ = some c6 :=
  ⟨h.other hc.1 hb, h.other hc.2.1 hb, h.other hc.2.2.1 hb, h.other hc.2.2.2.1 hb, h.other hc.2.2.2.2.1 hk, h.other hc.2.2.2.2.2.1 hk, h.other hc.2.2.2.2.2.2.1 hk, h.other hc.2.2.2.2.2.2.2.1 hk, h.other hc.2.2.2.2.2.2.2.2.1 hk, h.other hc.2.2.2.2.2.2.2.2.2.1 hk, h.other hc.2.2.2.2.2.2.2.2.2.2 hk⟩
theorem parts_any (S : Nat → Prop) (D d : Nat) (fs : List FT) (list : List VT) (ao : Option Addr) (ca : Nat) (vo : Option Addr) (vc : Nat) (w : World) (sb : Nat) (rr : FT → VT → Int → Option Int) (hr : ∀ g, Falls (rr g))
    (hS : ∀ b, S b → b < w.heap.size ∧ b ≠ sb) (hf : RowAt S w (D + 1) ao fs) (hv : VRow S w (d + 1) vo list)
    (h47 : ∀ (g : FT) (go : Option Addr) (gc : Nat), g ∈ fs → g.kids.length ≤ gc → RowAt S w D go g.kids → ∀ v ao ca, VOk v → VRow S w d ao v.list → FitC w sb 43 (.agg #[.string g.name, .bool g.nul, .int .i64 g.kind, .int .i64 g.width, .int .i64 g.id, .int .i64 g.index, .slice go g.kids.length gc]) (.agg #[.bool v.nul, .int .i64 v.num, .string v.text, .slice ao v.list.length ca]) (weigh (rr g) v)) :
    FitC w sb 111 (.slice ao fs.length ca) (.slice vo list.length vc) (fun l => if list.length = fs.length then fitsP (fun g => weigh (rr g)) fs list l else none) := by
  intro W l hs hl0 hl1
  dsimp only
  obtain ⟨x, hx⟩ : ∃ x, x = (if list.length = fs.length then fitsP (fun g => weigh (rr g)) fs list l else none) := ⟨_, rfl⟩
  rw [← hx]
  obtain ⟨L, hL⟩ : ∃ L, L = list.length := ⟨_, rfl⟩
  obtain ⟨M, hM⟩ : ∃ M, M = fs.length := ⟨_, rfl⟩
  rw [← hL] at hx ⊢
  rw [← hM] at hx ⊢
  have hLb : L ≤ 1000000000000 := by rw [hL]; exact hv.len
  have hMb : M ≤ 1000000000000 := by rw [hM]; exact hf.len
  have HLE := hidM (And.intro hL hM)
  have HS := hidM hs.self
  have HK := hidM hs.kp
  have HR := hidM hr
  have HB := hidM hS
  have HV := hidM hv
  have HFD := hidM hf
  have H47 := hidM h47
  have HL := hidM (And.intro hl0 hl1)
  have hlt0 := hidM hs.lt
  clear hs hr hS hv hf h47 hl0 hl1 hL hM
  by_cases hm : L = M
  · rw [if_pos hm] at hx
    have HX := hidM hx
    clear hx
    subst hm
    go_enter Tryz.func111, Tryz.ntmps111
    go_wp2
    go_loopw [16] (fun p wr => ∃ k : Nat, k ≤ L ∧ p = .int .i64 (k : Int) ∧ Hid (∃ l', Sc W wr sb l' ∧ 0 ≤ l' ∧ l' ≤ 4194304 ∧ x = fitsP (fun g => weigh (rr g)) (fs.drop k) (list.drop k) l')) (fun p _ => L - (intOf p).toNat)
    case atStart => exact ⟨0, by omega, rfl, l, HS.out, HL.out.1, HL.out.2, by rw [HX.out]; rfl⟩
    case round =>
      obtain ⟨k, hk, rfl, HI⟩ := hrel
      obtain ⟨l', hs', h0', h1', hx'⟩ := HI.out
      have HS' := hidM hs'
      have HL' := hidM (And.intro h0' h1')
      clear HI
      by_cases hlt : k < L
      · have hkl : k < list.length := by have := HLE.out; omega
        have hkf : k < fs.length := by have := HLE.out; omega
        obtain ⟨b, o, rfl, hb, hcs⟩ := HV.out.2 (fun e => by subst e; simp at hkl)
        obtain ⟨ao', ca', hc, hle, hok, hrow⟩ := hcs k hkl
        obtain ⟨fb, fo, rfl, hfb, hfs⟩ := HFD.out.2 (fun e => by subst e; simp at hkf)
        obtain ⟨go, gc, hg, hgle, hgrow⟩ := hfs k hkf
        have hcall := H47.out fs[k] go gc (List.getElem_mem hkf) hgle hgrow list[k] ao' ca' hok hrow
        rw [fitsP_drop hkf hkl] at hx'
        obtain ⟨v, hve⟩ : ∃ v, v = list[k]'hkl := ⟨_, rfl⟩
        obtain ⟨g, hge⟩ : ∃ g, g = fs[k]'hkf := ⟨_, rfl⟩
        rw [← hve] at hcall hx' hc
        rw [← hge] at hcall hx' hg
        have hk1 : Sc w wr sb l' := hs'.base HK.out
        have hcw := hc.kept (hk1.kp.block b (HB.out b hb).1 (HB.out b hb).2)
        have hgw := hg.kept (hk1.kp.block fb (HB.out fb hfb).1 (HB.out fb hfb).2)
        obtain ⟨c0, c1, c2, c3⟩ := hcw
        obtain ⟨V, hV⟩ : ∃ V, wr.alloc (.cells #[.bool v.nul, .int .i64 v.num, .string v.text, .slice ao' v.list.length ca'] 29) = V := ⟨_, rfl⟩
        have gv : Gr wr V := by rw [← hV]; exact gr_alloc wr _
        have b4 : B4 V wr.heap.size v.nul v.num v.text ao' v.list.length ca' := by unfold B4; rw [← hV]; exact heap_alloc_new wr _
        obtain ⟨e0, e1, e2, e3⟩ := b4.cells
        have hgv := hgw.kept (gv.block fb (Nat.lt_of_lt_of_le (HB.out fb hfb).1 hk1.kp.size) id)
        have HC : Hid (V.drew.cell? ⟨wr.heap.size, 0, none⟩ = some (.bool v.nul) ∧ V.drew.cell? ⟨wr.heap.size, 1, none⟩ = some (.int .i64 v.num) ∧ V.drew.cell? ⟨wr.heap.size, 2, none⟩ = some (.string v.text) ∧ V.drew.cell? ⟨wr.heap.size, 3, none⟩ = some (.slice ao' v.list.length ca') ∧ V.drew.cell? ⟨fb, fo + k * 7, none⟩ = some (.string g.name) ∧ V.drew.cell? ⟨fb, fo + k * 7 + 1, none⟩ = some (.bool g.nul) ∧ V.drew.cell? ⟨fb, fo + k * 7 + 2, none⟩ = some (.int .i64 g.kind) ∧ V.drew.cell? ⟨fb, fo + k * 7 + 3, none⟩ = some (.int .i64 g.width) ∧ V.drew.cell? ⟨fb, fo + k * 7 + 4, none⟩ = some (.int .i64 g.id) ∧ V.drew.cell? ⟨fb, fo + k * 7 + 5, none⟩ = some (.int .i64 g.index) ∧ V.drew.cell? ⟨fb, fo + k * 7 + 6, none⟩ = some (.slice go g.kids.length gc)) := ⟨e0, e1, e2, e3, hgv.c0, hgv.c1, hgv.c2, hgv.c3, hgv.c4, hgv.c5, hgv.c6⟩
        have HCL := hidM hcall
        have HK1 := hidM (hk1.gr gv)
        have HG := hidM gv
        have hN : Hid (wr.heap.size ≠ sb ∧ fb ≠ sb) := ⟨by have := hs'.lt; omega, (HB.out fb hfb).2⟩
        have hltI : (k : Int) < (L : Int) := by omega
        have HF := hidM (fun l1 (h : weigh (rr g) v l' = some l1) => (HR.out g).weigh v l' l1 h0' h)
        obtain ⟨y, hy⟩ : ∃ y, y = weigh (rr g) v l' := ⟨_, rfl⟩
        rw [← hy] at hx' HF
        have HX' := hidM hx'
        have HY := hidM hy
        clear hcs hc hok hrow hcall hs' h0' h1' hx' hk1 b4 hve hy hle hfs hg hgle hgrow hgw gv e0 e1 e2 e3 hgv hge
        go_wp2
        clear hV
        cases y with
        | some l2 =>
          go_region_held3 (fun w' => w'.cell? ⟨wr.heap.size, 0, none⟩ = some (.bool v.nul) ∧ w'.cell? ⟨wr.heap.size, 1, none⟩ = some (.int .i64 v.num) ∧ w'.cell? ⟨wr.heap.size, 2, none⟩ = some (.string v.text) ∧ w'.cell? ⟨wr.heap.size, 3, none⟩ = some (.slice ao' v.list.length ca') ∧ w'.cell? ⟨fb, fo + k * 7, none⟩ = some (.string g.name) ∧ w'.cell? ⟨fb, fo + k * 7 + 1, none⟩ = some (.bool g.nul) ∧ w'.cell? ⟨fb, fo + k * 7 + 2, none⟩ = some (.int .i64 g.kind) ∧ w'.cell? ⟨fb, fo + k * 7 + 3, none⟩ = some (.int .i64 g.width) ∧ w'.cell? ⟨fb, fo + k * 7 + 4, none⟩ = some (.int .i64 g.id) ∧ w'.cell? ⟨fb, fo + k * 7 + 5, none⟩ = some (.int .i64 g.index) ∧ w'.cell? ⟨fb, fo + k * 7 + 6, none⟩ = some (.slice go g.kids.length gc)) (first | with_reducible exact HC.out | with_reducible exact keep11 HE.out hN.out.1 hN.out.2 HC.out) ((go_at_call 43; refine Calls.mono (HCL.out _ _ HK1.out.drew HL'.out.1 HL'.out.2) ?_; rintro e v1' ⟨l3, rfl, hs3, hl3⟩; have hl3 := hl3 l2 HY.out.symm; subst hl3; rw [← HY.out]; have HE := hidM hs3; clear hs3))
          all_goals
            go_wp2_with fail
            go_roundw
            case rel =>
              have := HF.out l3 rfl
              exact ⟨k + 1, by omega, by simp, l3, HE.out.base (HS'.out.gr HG.out).drew.kp, this.1, by have := HL'.out.2; omega, HX'.out⟩
            case measure => simp [intOf]; omega
        | none =>
          go_region_held3 (fun w' => w'.cell? ⟨wr.heap.size, 0, none⟩ = some (.bool v.nul) ∧ w'.cell? ⟨wr.heap.size, 1, none⟩ = some (.int .i64 v.num) ∧ w'.cell? ⟨wr.heap.size, 2, none⟩ = some (.string v.text) ∧ w'.cell? ⟨wr.heap.size, 3, none⟩ = some (.slice ao' v.list.length ca') ∧ w'.cell? ⟨fb, fo + k * 7, none⟩ = some (.string g.name) ∧ w'.cell? ⟨fb, fo + k * 7 + 1, none⟩ = some (.bool g.nul) ∧ w'.cell? ⟨fb, fo + k * 7 + 2, none⟩ = some (.int .i64 g.kind) ∧ w'.cell? ⟨fb, fo + k * 7 + 3, none⟩ = some (.int .i64 g.width) ∧ w'.cell? ⟨fb, fo + k * 7 + 4, none⟩ = some (.int .i64 g.id) ∧ w'.cell? ⟨fb, fo + k * 7 + 5, none⟩ = some (.int .i64 g.index) ∧ w'.cell? ⟨fb, fo + k * 7 + 6, none⟩ = some (.slice go g.kids.length gc)) (first | with_reducible exact HC.out | with_reducible exact keep11 HE.out hN.out.1 hN.out.2 HC.out) ((go_at_call 43; refine Calls.mono (HCL.out _ _ HK1.out.drew HL'.out.1 HL'.out.2) ?_; rintro e v1' ⟨l3, rfl, hs3, hl3⟩; rw [← HY.out]; have HE := hidM hs3; clear hs3 hl3))
          all_goals
            go_wp2_with fail
            go_ret
            exact .no HX'.out rfl (HE.out.base (HS'.out.gr HG.out).drew.kp)
      · have hkL : k = L := by omega
        subst hkL
        have HX' : Hid (x = some l') := by
          show x = some l'
          rw [hx', List.drop_of_length_le (by have := HLE.out; omega)]
          cases (fs.drop k) <;> rfl
        clear hx' hs' h0' h1'
        go_wp2
        go_ret
        exact .yes HX'.out rfl HS'.out
  · rw [if_neg hm] at hx
    have HX := hidM hx
    have hmI : ((L : Int) == (M : Int)) = false := by simp; omega
    clear hx
    go_enter Tryz.func111, Tryz.ntmps111
    go_wp2
    go_ret
    exact .no HX.out rfl HS.out
/-! ### fitsChoice -/
theorem keep13 {V v1 : World} {sb : Nat} {l : Int} {b eb eo kb ko : Nat} {y1 y3 e0 e1 e2 e3 c0 c1 c2 c3 c4 c5 c6 : Value} (h : Sc V v1 sb l) (hb : b ≠ sb) (he : eb ≠ sb) (hk : kb ≠ sb)
    (hc : V.cell? ⟨b, 1, none⟩ = some y1 ∧ V.cell? ⟨b, 3, none⟩ = some y3 ∧ V.cell? ⟨eb, eo, none⟩ = some e0 ∧ V.cell? ⟨eb, eo + 1, none⟩ = some e1 ∧ V.cell? ⟨eb, eo + 2, none⟩ = some e2 ∧ V.cell? ⟨eb, eo + 3, none⟩ = some e3 ∧ V.cell? ⟨kb, ko, none⟩ = some c0 ∧ V.cell? ⟨kb, ko + 1, none⟩ = some c1 ∧ V.cell? ⟨kb, ko + 2, none⟩ = some c2 ∧ V.cell? ⟨kb, ko + 3, none⟩ = some c3 ∧ V.cell? ⟨kb, ko + 4, none⟩ = some c4 ∧ V.cell? ⟨kb, ko + 5, none⟩ = some c5 ∧ V.cell? ⟨kb, ko + 6, none⟩ = some c6) :
    v1.cell? ⟨b, 1, none⟩ = some y1 ∧ v1.cell? ⟨b, 3, none⟩ = some y3 ∧ v1.cell? ⟨eb, eo, none⟩ = some e0 ∧ v1.cell? ⟨eb, eo + 1, none⟩ = some e1 ∧ v1.cell? ⟨eb, eo + 2, none⟩ = some e2 ∧ v1.cell? ⟨eb, eo + 3, none⟩ = some e3 ∧ v1.cell? ⟨kb, ko, none⟩ = some c0 ∧ v1.cell? ⟨kb, ko + 1, none⟩ = some c1 ∧ v1.cell? ⟨kb, ko + 2, none⟩ = some c2 ∧ v1.cell? ⟨kb, ko + 3, none⟩ = some c3 ∧ v1.cell? ⟨kb, ko + 4, none⟩ = some c4 ∧ v1.cell? ⟨kb, ko + 5, none⟩ = some c5 ∧ v1.cell? ⟨kb, ko + 6, none⟩ = some c6 :=
  ⟨h.other hc.1 hb, h.other hc.2.1 hb, h.other hc.2.2.1 he, h.other hc.2.2.2.1 he, h.other hc.2.2.2.2.1 he, h.other hc.2.2.2.2.2.1 he, h.other hc.2.2.2.2.2.2.1 hk, h.other hc.2.2.2.2.2.2.2.1 hk, h.other hc.2.2.2.2.2.2.2.2.1 hk, h.other hc.2.2.2.2.2.2.2.2.2.1 hk, h.other hc.2.2.2.2.2.2.2.2.2.2.1 hk, h.other hc.2.2.2.2.2.2.2.2.2.2.2.1 hk, h.other hc.2.2.2.2.2.2.2.2.2.2.2.2 hk⟩
theorem choice_yes (v0 : Bool) (v2 : ByteArray) (vc : Nat) (j n ca kb ko eb eo : Nat) (k0 : ByteArray) (k1 : Bool) (k2 k3 k4 k5 : Int) (kp : Option Addr) (kn kc : Nat) (e0 : Bool) (e1 : Int) (e2 : ByteArray) (ep : Option Addr) (en ec : Nat) (w W : World) (sb : Nat) (l : Int) (x : Option Int) (r : Int → Option Int)
    (hs : Sc w W sb l) (hl0 : 0 ≤ l) (hl : l ≤ 4194304) (hj : j < n) (hn : n ≤ 1000000000000) (hx : x = r l) (hkb : kb ≠ sb) (heb : eb ≠ sb) (g0 : W.cell? ⟨kb, ko + j * 7, none⟩ = some (.string k0)) (g1 : W.cell? ⟨kb, ko + j * 7 + 1, none⟩ = some (.bool k1)) (g2 : W.cell? ⟨kb, ko + j * 7 + 2, none⟩ = some (.int .i64 k2)) (g3 : W.cell? ⟨kb, ko + j * 7 + 3, none⟩ = some (.int .i64 k3)) (g4 : W.cell? ⟨kb, ko + j * 7 + 4, none⟩ = some (.int .i64 k4)) (g5 : W.cell? ⟨kb, ko + j * 7 + 5, none⟩ = some (.int .i64 k5)) (g6 : W.cell? ⟨kb, ko + j * 7 + 6, none⟩ = some (.slice kp kn kc)) (d0 : W.cell? ⟨eb, eo, none⟩ = some (.bool e0)) (d1 : W.cell? ⟨eb, eo + 1, none⟩ = some (.int .i64 e1)) (d2 : W.cell? ⟨eb, eo + 2, none⟩ = some (.string e2)) (d3 : W.cell? ⟨eb, eo + 3, none⟩ = some (.slice ep en ec)) (hF : FitC w sb 43 (.agg #[.string k0, .bool k1, .int .i64 k2, .int .i64 k3, .int .i64 k4, .int .i64 k5, .slice kp kn kc]) (.agg #[.bool e0, .int .i64 e1, .string e2, .slice ep en ec]) r) :
    Calls Tryz.prog 112 #[.pointer (some ⟨sb, 0, none⟩), .slice (some ⟨kb, ko, none⟩) n ca, .agg #[.bool v0, .int .i64 (j : Int), .string v2, .slice (some ⟨eb, eo, none⟩) 1 vc]] W fun e w' => FitQ W sb x e w' := by
  obtain ⟨V, hV⟩ : ∃ V, W.alloc (.cells #[.bool v0, .int .i64 (j : Int), .string v2, .slice (some ⟨eb, eo, none⟩) 1 vc] 29) = V := ⟨_, rfl⟩
  have gr : Gr W V := by rw [← hV]; exact gr_alloc W _
  have b4 : B4 V W.heap.size v0 (j : Int) v2 (some ⟨eb, eo, none⟩) 1 vc := by unfold B4; rw [← hV]; exact heap_alloc_new W _
  obtain ⟨p0, p1, p2, p3⟩ := b4.cells
  have g0 := gr.cell' g0 id
  have g1 := gr.cell' g1 id
  have g2 := gr.cell' g2 id
  have g3 := gr.cell' g3 id
  have g4 := gr.cell' g4 id
  have g5 := gr.cell' g5 id
  have g6 := gr.cell' g6 id
  have d0 := gr.cell' d0 id
  have d1 := gr.cell' d1 id
  have d2 := gr.cell' d2 id
  have d3 := gr.cell' d3 id
  have HS := hidM (hs.self.gr gr)
  have HK := hidM hs.kp
  have HF := hidM hF
  have HX := hidM hx
  have hjI : (j : Int) < (n : Int) := by omega
  have hj0 : (0 : Int) ≤ (j : Int) := by omega
  have hlt := hs.lt
  have hN := hidM (And.intro (show W.heap.size ≠ sb by omega) (And.intro heb hkb))
  have HC : Hid (V.drew.cell? ⟨W.heap.size, 1, none⟩ = some (.int .i64 (j : Int)) ∧ V.drew.cell? ⟨W.heap.size, 3, none⟩ = some (.slice (some ⟨eb, eo, none⟩) 1 vc) ∧ V.drew.cell? ⟨eb, eo, none⟩ = some (.bool e0) ∧ V.drew.cell? ⟨eb, eo + 1, none⟩ = some (.int .i64 e1) ∧ V.drew.cell? ⟨eb, eo + 2, none⟩ = some (.string e2) ∧ V.drew.cell? ⟨eb, eo + 3, none⟩ = some (.slice ep en ec) ∧ V.drew.cell? ⟨kb, ko + j * 7, none⟩ = some (.string k0) ∧ V.drew.cell? ⟨kb, ko + j * 7 + 1, none⟩ = some (.bool k1) ∧ V.drew.cell? ⟨kb, ko + j * 7 + 2, none⟩ = some (.int .i64 k2) ∧ V.drew.cell? ⟨kb, ko + j * 7 + 3, none⟩ = some (.int .i64 k3) ∧ V.drew.cell? ⟨kb, ko + j * 7 + 4, none⟩ = some (.int .i64 k4) ∧ V.drew.cell? ⟨kb, ko + j * 7 + 5, none⟩ = some (.int .i64 k5) ∧ V.drew.cell? ⟨kb, ko + j * 7 + 6, none⟩ = some (.slice kp kn kc)) := ⟨p1, p3, d0, d1, d2, d3, g0, g1, g2, g3, g4, g5, g6⟩
  have HL := hidM (And.intro hl0 hl)
  clear b4 gr hs hF hx p0 p2 hlt hkb heb hl0 hl
  go_enter Tryz.func112, Tryz.ntmps112
  go_wp2
  clear hV p1 p3 g0 g1 g2 g3 g4 g5 g6 d0 d1 d2 d3
  go_region_held3 (fun w' => w'.cell? ⟨W.heap.size, 1, none⟩ = some (.int .i64 (j : Int)) ∧ w'.cell? ⟨W.heap.size, 3, none⟩ = some (.slice (some ⟨eb, eo, none⟩) 1 vc) ∧ w'.cell? ⟨eb, eo, none⟩ = some (.bool e0) ∧ w'.cell? ⟨eb, eo + 1, none⟩ = some (.int .i64 e1) ∧ w'.cell? ⟨eb, eo + 2, none⟩ = some (.string e2) ∧ w'.cell? ⟨eb, eo + 3, none⟩ = some (.slice ep en ec) ∧ w'.cell? ⟨kb, ko + j * 7, none⟩ = some (.string k0) ∧ w'.cell? ⟨kb, ko + j * 7 + 1, none⟩ = some (.bool k1) ∧ w'.cell? ⟨kb, ko + j * 7 + 2, none⟩ = some (.int .i64 k2) ∧ w'.cell? ⟨kb, ko + j * 7 + 3, none⟩ = some (.int .i64 k3) ∧ w'.cell? ⟨kb, ko + j * 7 + 4, none⟩ = some (.int .i64 k4) ∧ w'.cell? ⟨kb, ko + j * 7 + 5, none⟩ = some (.int .i64 k5) ∧ w'.cell? ⟨kb, ko + j * 7 + 6, none⟩ = some (.slice kp kn kc)) (first | with_reducible exact HC.out | with_reducible exact keep13 HE.out.1 hN.out.1 hN.out.2.1 hN.out.2.2 HC.out) ((go_at_call 43; refine Calls.mono (HF.out _ _ ((HS.out.drew).base HK.out) HL.out.1 HL.out.2) ?_; rintro e v1' ⟨l', rfl, hs', hr⟩; have HE := hidM (And.intro hs' hr); clear hs' hr))
  all_goals
    go_wp2_with fail
    go_ret
    exact .of HX.out rfl (HE.out.1.base HS.out.drew.kp) HE.out.2
theorem choice_no (v0 : Bool) (v1 : Int) (v2 : ByteArray) (vo : Option Addr) (m vc : Nat) (ao : Option Addr) (n ca : Nat) (w W : World) (sb : Nat) (l : Int) (x : Option Int) (hs : Sc w W sb l) (hn : n ≤ 1000000000000) (hm : m ≤ 1000000000000) (hc : v1 < 0 ∨ (0 ≤ v1 ∧ (n : Int) ≤ v1) ∨ (0 ≤ v1 ∧ v1 < (n : Int) ∧ m ≠ 1)) (hx : x = none) :
    Calls Tryz.prog 112 #[.pointer (some ⟨sb, 0, none⟩), .slice ao n ca, .agg #[.bool v0, .int .i64 v1, .string v2, .slice vo m vc]] W fun e w' => FitQ W sb x e w' := by
  have HS := hidM hs.self
  have HX := hidM hx
  clear hs hx
  rcases hc with h1 | ⟨h1, h2⟩ | ⟨h1, h2, h3⟩
  · have h1 : decide (0 ≤ v1) = false := by simp; omega
    go_enter Tryz.func112, Tryz.ntmps112
    go_wp2
    go_region
    all_goals
      go_wp2
      go_ret
      exact .no HX.out rfl (HS.out.alloc _).drew
  · have h1 : decide (0 ≤ v1) = true := by simp; omega
    have h2 : decide (v1 < (n : Int)) = false := by simp; omega
    go_enter Tryz.func112, Tryz.ntmps112
    go_wp2
    go_region
    all_goals
      go_wp2
      go_ret
      exact .no HX.out rfl (HS.out.alloc _).drew
  · have h1 : decide (0 ≤ v1) = true := by simp; omega
    have h2 : decide (v1 < (n : Int)) = true := by simp; omega
    have h3 : ((m : Int) == 1) = false := by simp; omega
    go_enter Tryz.func112, Tryz.ntmps112
    go_wp2
    go_region
    all_goals
      go_wp2
      go_ret
      exact .no HX.out rfl (HS.out.alloc _).drew
end Go.Proofs.YtfoifmacobldbaaGreatDoor.Kit
namespace Go.Proofs.YtfoifmacobldbaaGreatDoor.Kit
open Go.RowKit Go.Shelf Go.Deep
set_option linter.unusedVariables false
/-! ### fitsType, all kinds; all depths -/
theorem RowAt.more {S : Nat → Prop} {W : World} : ∀ {d e : Nat} {ao : Option Addr} {l : List FT}, d ≤ e → RowAt S W d ao l → RowAt S W e ao l
  | 0, 0, _, _, _, h => h
  | 0, e + 1, _, l, _, h => by have : l = [] := h; subst this; exact ⟨by simp [big], fun h => absurd rfl h⟩
  | d + 1, 0, _, _, h, _ => by omega
  | d + 1, e + 1, _, _, hle, h => ⟨h.1, fun hn => by
    obtain ⟨b, o, e, hb, hi⟩ := h.2 hn
    refine ⟨b, o, e, hb, fun i hl => ?_⟩
    obtain ⟨ao', ca', hc, hle', hr⟩ := hi i hl
    exact ⟨ao', ca', hc, hle', RowAt.more (by omega) hr⟩⟩
theorem ite_iff {α : Type} {P Q : Prop} [Decidable P] [Decidable Q] {a b : α} (h : P ↔ Q) : (if P then a else b) = if Q then a else b := by
  by_cases q : Q
  · rw [if_pos q, if_pos (h.2 q)]
  · rw [if_neg q, if_neg (fun p => q (h.1 p))]
theorem fits47 {f : FT} {ao : Option Addr} {ca : Nat} {v : VT} {vo : Option Addr} {vc : Nat} {w : World} {sb : Nat} {r : VT → Int → Option Int} (hv : VOk v)
    (h : FitC w sb 76 (.agg #[.string f.name, .bool f.nul, .int .i64 f.kind, .int .i64 f.width, .int .i64 f.id, .int .i64 f.index, .slice ao f.kids.length ca]) (.agg #[.bool v.nul, .int .i64 v.num, .string v.text, .slice vo v.list.length vc]) (r v)) :
    FitC w sb 43 (.agg #[.string f.name, .bool f.nul, .int .i64 f.kind, .int .i64 f.width, .int .i64 f.id, .int .i64 f.index, .slice ao f.kids.length ca]) (.agg #[.bool v.nul, .int .i64 v.num, .string v.text, .slice vo v.list.length vc]) (weigh r v) :=
  fits_walk _ _ _ _ _ _ _ _ _ _ _ _ _ _ _ _ _ _ hv.2 h
theorem head_get {l : List FT} (h : l ≠ []) : 0 < l.length ∧ ∀ (h' : 0 < l.length), l[0] = l.head! := by
  cases l with
  | nil => exact absurd rfl h
  | cons a l => exact ⟨by simp, fun _ => rfl⟩
theorem type_step (S : Nat → Prop) (D : Nat) (w : World) (sb : Nat) (hS : ∀ b, S b → b < w.heap.size ∧ b ≠ sb)
    (hU : ∀ (s : ByteArray), s.size ≤ big → ∀ W', Keeps w W' (fun k => k = sb) → Calls Tryz.prog 109 #[.string s] W' fun e w' => e = .returned (.bool (Lib.validD s.data.toList)) ∧ Gr W' w')
    (f : FT) (ao : Option Addr) (ca : Nat) (r : FT → VT → Int → Option Int) (hr : ∀ g, Falls (r g)) (hf : RowAt S w (D + 1) ao f.kids) (hT : tableB f = true)
    (hkid : ∀ (g : FT) (go : Option Addr) (gc : Nat), g ∈ f.kids → g.kids.length ≤ gc → RowAt S w D go g.kids → ∀ (v : VT) (vo : Option Addr) (vc dv : Nat), VOk v → VRow S w dv vo v.list → FitC w sb 76 (.agg #[.string g.name, .bool g.nul, .int .i64 g.kind, .int .i64 g.width, .int .i64 g.id, .int .i64 g.index, .slice go g.kids.length gc]) (.agg #[.bool v.nul, .int .i64 v.num, .string v.text, .slice vo v.list.length vc]) (r g v))
    (v : VT) (vo : Option Addr) (vc dv : Nat) (hok : VOk v) (hv : VRow S w dv vo v.list) :
    FitC w sb 76 (.agg #[.string f.name, .bool f.nul, .int .i64 f.kind, .int .i64 f.width, .int .i64 f.id, .int .i64 f.index, .slice ao f.kids.length ca]) (.agg #[.bool v.nul, .int .i64 v.num, .string v.text, .slice vo v.list.length vc]) (fitsB r f v) := by
  intro W l hs hl0 hl1
  have n1 : (v.num == 0) = true ↔ v.num = 0 := beq_iff_eq
  have n2 : v.text.toList.isEmpty = true ↔ v.text.size = 0 := by
    rw [ByteArray.toList_eq, List.isEmpty_iff_length_eq_zero]
    simp
  have n3 : ((v.list.length : Int) == 0) = true ↔ v.list = [] := by
    rw [beq_iff_eq, ← List.length_eq_zero_iff]
    omega
  have hvl : v.list.length ≤ 1000000000000 := hv.len
  have hfl : f.kids.length ≤ 1000000000000 := hf.len
  -- the first child, where there is one
  have kid : f.kids ≠ [] → ∃ kb ko, ao = some ⟨kb, ko, none⟩ ∧ kb ≠ sb ∧ ∃ go gc, CellsAt W kb ko f.kids.head! go gc ∧ f.kids.head!.kids.length ≤ gc ∧ RowAt S w D go f.kids.head!.kids := by
    intro hne
    obtain ⟨h0, he⟩ := head_get hne
    obtain ⟨kb, ko, rfl, hb, hi⟩ := hf.2 hne
    obtain ⟨go, gc, hc, hle, hrow⟩ := hi 0 h0
    rw [he h0] at hc hle hrow
    simp only [Nat.zero_mul, Nat.add_zero] at hc
    exact ⟨kb, ko, rfl, (hS kb hb).2, go, gc, hc.kept (hs.kp.block kb (hS kb hb).1 (hS kb hb).2), hle, hrow⟩
  have hmem : f.kids ≠ [] → f.kids.head! ∈ f.kids := fun h => by
    cases hk : f.kids with
    | nil => exact absurd hk h
    | cons a b => exact List.mem_cons_self
  cases hn : v.nul with
  | true =>
    refine type_null _ _ _ _ _ _ _ _ _ _ _ _ _ _ w W sb l _ _ _ _ rfl rfl rfl hs ?_
    unfold fitsB
    rw [if_pos hn]
    exact ite_iff (by simp only [Bool.and_eq_true, n1, n2, n3]; constructor <;> (rintro h; simp_all))
  | false =>
    have hk := tab_kind hT
    have hnn : ¬ v.nul = true := by rw [hn]; exact Bool.false_ne_true
    unfold fitsB
    rw [if_neg hnn]
    by_cases k12 : f.kind = 12
    · rw [if_pos k12, k12]
      refine type12 _ _ _ _ _ _ _ _ _ _ _ _ _ w W sb l _ _ _ _ rfl rfl rfl hs _ (fun W' g => hU _ hok.2 W' (hs.kp.trans g (fun _ _ h => h.elim))) ?_
      exact ite_iff (by simp only [Bool.and_eq_true, n1, n3, and_assoc])
    rw [if_neg k12]
    by_cases k13 : f.kind = 13
    · rw [if_pos k13, k13]
      refine type13 _ _ _ _ _ _ _ _ _ _ _ _ _ w W sb l _ _ _ _ rfl rfl rfl hs ?_
      exact ite_iff (by simp only [Bool.and_eq_true, n1, n3])
    rw [if_neg k13]
    by_cases k14 : f.kind = 14
    · rw [if_pos k14, k14]
      refine type14 _ _ _ _ _ _ _ _ _ _ _ _ _ w W sb l _ _ _ _ rfl rfl rfl hs _ rfl ?_
      exact ite_iff (by simp only [Bool.and_eq_true, n1, n3, beq_iff_eq, and_assoc])
    rw [if_neg k14]
    by_cases k15 : f.kind = 15
    · rw [if_pos k15, k15]
      have hne := tab_kid hT (.inl k15)
      obtain ⟨kb, ko, rfl, hkb, go, gc, hc, hle, hrow⟩ := kid hne
      have hit := items_any S dv v.list f.kids.head!.name f.kids.head!.nul f.kids.head!.kind f.kids.head!.width f.kids.head!.id f.kids.head!.index go f.kids.head!.kids.length gc vo vc w sb (r f.kids.head!) (hr _) hS (hv.more (by omega)) (fun u ao ca h1 h2 => fits47 h1 (hkid _ _ _ (hmem hne) hle hrow u ao ca dv h1 h2))
      by_cases hc1 : v.num = 0 ∧ v.text.size = 0
      · have e : (if v.num = 0 ∧ v.text.size = 0 ∧ v.list.length ≤ 4096 then fitsL (weigh (r f.kids.head!)) v.list l else none) = (if v.list.length ≤ 4096 then fitsL (weigh (r f.kids.head!)) v.list l else none) := ite_iff (by simp [hc1.1, hc1.2])
        rw [e, hc1.1]
        exact type15 _ _ _ _ _ _ _ _ _ _ _ _ _ _ _ _ _ _ _ _ _ _ w W sb l _ _ hs hl0 hl1 (head_get hne).1 rfl hkb (n2.2 hc1.2) hc.c0 hc.c1 hc.c2 hc.c3 hc.c4 hc.c5 hc.c6 hit
      · rw [if_neg (fun h => hc1 ⟨h.1, h.2.1⟩)]
        refine type15_no _ _ _ _ _ _ _ _ _ _ _ _ _ w W sb l _ _ _ _ rfl rfl rfl hs ?_ rfl
        rw [Bool.eq_false_iff]
        intro h
        simp only [Bool.and_eq_true, n1, n2] at h
        exact hc1 h
    rw [if_neg k15]
    by_cases k16 : f.kind = 16
    · rw [if_pos k16, k16]
      have hne := tab_kid hT (.inr (.inl k16))
      obtain ⟨kb, ko, rfl, hkb, go, gc, hc, hle, hrow⟩ := kid hne
      have hit := items_any S dv v.list f.kids.head!.name f.kids.head!.nul f.kids.head!.kind f.kids.head!.width f.kids.head!.id f.kids.head!.index go f.kids.head!.kids.length gc vo vc w sb (r f.kids.head!) (hr _) hS (hv.more (by omega)) (fun u ao ca h1 h2 => fits47 h1 (hkid _ _ _ (hmem hne) hle hrow u ao ca dv h1 h2))
      by_cases hc1 : v.num = 0 ∧ v.text.size = 0 ∧ (v.list.length : Int) = f.width
      · have e : (if v.num = 0 ∧ v.text.size = 0 ∧ (v.list.length : Int) = f.width ∧ v.list.length ≤ 4096 then fitsL (weigh (r f.kids.head!)) v.list l else none) = (if v.list.length ≤ 4096 then fitsL (weigh (r f.kids.head!)) v.list l else none) := ite_iff ⟨fun h => h.2.2.2, fun h => ⟨hc1.1, hc1.2.1, hc1.2.2, h⟩⟩
        rw [e, hc1.1]
        exact type16 _ _ _ _ _ _ _ _ _ _ _ _ _ _ _ _ _ _ _ _ _ _ w W sb l _ _ hs hl0 hl1 (head_get hne).1 rfl hkb (n2.2 hc1.2.1) (beq_iff_eq.2 hc1.2.2) hc.c0 hc.c1 hc.c2 hc.c3 hc.c4 hc.c5 hc.c6 hit
      · rw [if_neg (fun h => hc1 ⟨h.1, h.2.1, h.2.2.1⟩)]
        refine type16_no _ _ _ _ _ _ _ _ _ _ _ _ _ w W sb l _ _ _ _ rfl rfl rfl hs _ rfl ?_ rfl
        rw [Bool.eq_false_iff]
        intro h
        simp only [Bool.and_eq_true, n1, n2, beq_iff_eq, and_assoc] at h
        exact hc1 h
    rw [if_neg k16]
    by_cases k17 : f.kind = 17
    · rw [if_pos k17, k17]
      have hpt := parts_any S D dv f.kids v.list ao ca vo vc w sb r hr hS hf (hv.more (by omega)) (fun g go gc hg hle hrow u uo uc h1 h2 => fits47 h1 (hkid g go gc hg hle hrow u uo uc dv h1 h2))
      refine type17 _ _ _ _ _ _ _ _ _ _ _ _ _ w W sb l _ _ _ _ rfl rfl rfl hs _ hl0 hl1 hpt ?_
      by_cases hc1 : v.num = 0 ∧ v.text.size = 0
      · rw [if_pos (show ((v.num == 0) && v.text.toList.isEmpty) = true by simp only [Bool.and_eq_true, n1, n2]; exact hc1)]
        exact ite_iff (by simp [hc1.1, hc1.2])
      · rw [if_neg (fun h => hc1 ⟨h.1, h.2.1⟩), if_neg (fun h => hc1 (by simp only [Bool.and_eq_true, n1, n2] at h; exact h))]
    rw [if_neg k17]
    by_cases k18 : f.kind = 18
    · rw [if_pos k18, k18]
      have hch : FitC w sb 112 (.slice ao f.kids.length ca) (.agg #[.bool false, .int .i64 v.num, .string v.text, .slice vo v.list.length vc]) (fun l => if 0 ≤ v.num ∧ v.num < (f.kids.length : Int) ∧ v.list.length = 1 then weigh (r (f.kids.getD v.num.toNat default)) v.list.head! l else none) := by
        intro W l hs hl0 hl1
        dsimp only
        by_cases hc1 : 0 ≤ v.num ∧ v.num < (f.kids.length : Int) ∧ v.list.length = 1
        · rw [if_pos hc1]
          obtain ⟨j, hj⟩ : ∃ j : Nat, (j : Int) = v.num := ⟨v.num.toNat, by omega⟩
          have hjl : j < f.kids.length := by omega
          have hfne : f.kids ≠ [] := fun h => by rw [h] at hjl; simp at hjl
          obtain ⟨u, hu⟩ := List.length_eq_one_iff.1 hc1.2.2
          obtain ⟨kb, ko, rfl, hb, hi⟩ := hf.2 hfne
          obtain ⟨go, gc, hc, hle, hrow⟩ := hi j hjl
          have hv' := hv.more (e := dv + 1) (by omega)
          obtain ⟨eb, eo, rfl, heb, hei⟩ := hv'.2 (by rw [hu]; simp)
          obtain ⟨uo, uc, hce, hule, huok, hurow⟩ := hei 0 (by omega)
          have hu0 : v.list[0]'(by omega) = u := by simp [hu]
          rw [hu0] at hce hule huok hurow
          simp only [Nat.zero_mul, Nat.add_zero] at hce
          have hgd : f.kids.getD v.num.toNat default = f.kids[j] := by
            rw [show v.num.toNat = j by omega, List.getD_eq_getElem?_getD, List.getElem?_eq_getElem hjl]
            rfl
          have hhd : v.list.head! = u := by rw [hu]; rfl
          rw [hgd, hhd, ← hj, hc1.2.2]
          have hcw := hc.kept (hs.kp.block kb (hS kb hb).1 (hS kb hb).2)
          have hcv := hce.kept (hs.kp.block eb (hS eb heb).1 (hS eb heb).2)
          exact choice_yes _ _ _ j _ _ kb ko eb eo _ _ _ _ _ _ _ _ _ _ _ _ _ _ _ w W sb l _ _ hs hl0 hl1 hjl hfl rfl (hS kb hb).2 (hS eb heb).2 hcw.c0 hcw.c1 hcw.c2 hcw.c3 hcw.c4 hcw.c5 hcw.c6 hcv.c0 hcv.c1 hcv.c2 hcv.c3 (fits47 huok (hkid _ _ _ (List.getElem_mem hjl) hle hrow u uo uc dv huok hurow))
        · rw [if_neg hc1]
          exact choice_no _ _ _ _ _ _ _ _ _ w W sb l _ hs hfl hvl (by omega) rfl
      refine type18 _ _ _ _ _ _ _ _ _ _ _ _ _ w W sb l _ _ _ _ rfl rfl rfl hs _ hl0 hl1 hch ?_
      by_cases hc1 : v.text.size = 0
      · rw [if_pos (n2.2 hc1)]
        exact ite_iff (by simp [hc1])
      · rw [if_neg (fun h => hc1 h.1), if_neg (fun h => hc1 (n2.1 h))]
    rw [if_neg k18]
    by_cases k19 : f.kind = 19 ∨ f.kind = 20
    · rw [if_pos k19]
      have hne := tab_kid hT (by omega)
      obtain ⟨kb, ko, rfl, hkb, go, gc, hc, hle, hrow⟩ := kid hne
      have hF := hkid _ _ _ (hmem hne) hle hrow v vo vc dv hok hv
      rw [hn] at hF
      rcases k19 with k19 | k20
      · rw [k19]
        exact type19 _ _ _ _ _ _ _ _ _ _ _ _ _ _ _ _ _ _ _ _ _ _ _ w W sb l _ _ hs hl0 hl1 (head_get hne).1 rfl hkb hc.c0 hc.c1 hc.c2 hc.c3 hc.c4 hc.c5 hc.c6 hF
      · rw [k20]
        exact type20 _ _ _ _ _ _ _ _ _ _ _ _ _ _ _ _ _ _ _ _ _ _ _ w W sb l _ _ hs hl0 hl1 (head_get hne).1 rfl hkb hc.c0 hc.c1 hc.c2 hc.c3 hc.c4 hc.c5 hc.c6 hF
    rw [if_neg k19]
    refine type_num _ _ _ _ _ _ _ _ _ _ _ _ _ _ w W sb l _ _ _ _ rfl rfl rfl hs (by omega) _ rfl ?_
    have h64 := hok.1
    exact ite_iff (by simp only [Bool.and_eq_true, n2, n3]; exact ⟨fun h => ⟨⟨h.1, h.2.1⟩, h.2.2.2⟩, fun h => ⟨h.1.1, h.1.2, h64, h.2⟩⟩)
/-- all depths -/
theorem type_any (S : Nat → Prop) (w : World) (sb : Nat) (hS : ∀ b, S b → b < w.heap.size ∧ b ≠ sb)
    (hU : ∀ (s : ByteArray), s.size ≤ big → ∀ W', Keeps w W' (fun k => k = sb) → Calls Tryz.prog 109 #[.string s] W' fun e w' => e = .returned (.bool (Lib.validD s.data.toList)) ∧ Gr W' w') :
    ∀ (D : Nat) (f : FT) (ao : Option Addr) (ca : Nat), RowAt S w D ao f.kids → okF (D + 1) f → ∀ (v : VT) (vo : Option Addr) (vc dv : Nat), VOk v → VRow S w dv vo v.list →
      FitC w sb 76 (.agg #[.string f.name, .bool f.nul, .int .i64 f.kind, .int .i64 f.width, .int .i64 f.id, .int .i64 f.index, .slice ao f.kids.length ca]) (.agg #[.bool v.nul, .int .i64 v.num, .string v.text, .slice vo v.list.length vc]) (fitsT (D + 1) f v)
  | 0, f, ao, ca, hf, ho, v, vo, vc, dv, hok, hv => by
    have hk : f.kids = [] := hf
    exact type_step S 0 w sb hS hU f ao ca (fitsT 0) (falls_fits 0) (hf.more (by omega)) ho.1 (fun g go gc hg => by rw [hk] at hg; cases hg) v vo vc dv hok hv
  | D + 1, f, ao, ca, hf, ho, v, vo, vc, dv, hok, hv =>
    type_step S D w sb hS hU f ao ca (fitsT (D + 1)) (falls_fits (D + 1)) hf ho.1 (fun g go gc hg hle hrow u uo uc du h1 h2 => type_any S w sb hS hU D g go gc hrow (ho.2 g hg) u uo uc du h1 h2) v vo vc dv hok hv
end Go.Proofs.YtfoifmacobldbaaGreatDoor.Kit
