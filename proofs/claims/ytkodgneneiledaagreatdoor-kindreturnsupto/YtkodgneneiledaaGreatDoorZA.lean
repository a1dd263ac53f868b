import Derived.Test.YtkodgneneiledaaGreatDoorWW
import Derived.Test.YtkodgneneiledaaGreatDoorHC
namespace Go.Proofs.YtkodgneneiledaaGreatDoor.Kit
open Go.RowKit Go.Shelf Go.Deep
set_option linter.unusedVariables false
attribute [local go_sem] run_store_func

/-! ### ParseField$1 32: a field alone -/
def fldS (T : List UInt8) : RSch := (fieldP T D0).bind fun f => Pr.pure ([f], [])
theorem fldS_notes {T : List UInt8} {l : List FT} {ns : List (ByteArray × ByteArray)} {s s1 : Ps} (h : fldS T s = .ok ((l, ns), s1)) : ns.length ≤ s1.1 := by
  unfold fldS at h
  obtain ⟨f, s2, e1, e2⟩ := Pr.inv h
  cases e2
  exact Nat.zero_le _
theorem fldS_names {T : List UInt8} {l : List FT} {ns : List (ByteArray × ByteArray)} {s s1 : Ps} (h : fldS T s = .ok ((l, ns), s1)) : s1.2.length = s.2.length + nP (D0 + 1) l := by
  unfold fldS at h
  obtain ⟨f, s2, e1, e2⟩ := Pr.inv h
  cases e2
  exact field_fnE D0 (D0 + 1) _ _ _ (by omega) e1
theorem row_one {p : Nat} {W U : World} {d g : Nat} {x : FT} {ko : Option Addr} {kc : Nat} (hg : U.heap[g]? = some (.cells #[.string x.name, .bool x.nul, .int .i64 x.kind, .int .i64 x.width, .int .i64 x.id, .int .i64 x.index, .slice ko x.kids.length kc] 37 (0, 0))) (hW : W.heap.size ≤ g) (hk : x.kids.length ≤ kc) (hr : RowAt (NB p W U) U d ko x.kids) : RowAt (NB p W U) U (d + 1) (some ⟨g, 0, none⟩) [x] := by
  refine ⟨by simp [big], fun _ => ⟨g, 0, rfl, ⟨hW, lt_of_heap hg, IntsB.of hg (by decide)⟩, fun i hi => ?_⟩⟩
  have hi0 : i = 0 := by simpa using hi
  subst hi0
  refine ⟨ko, kc, ?_, hk, hr⟩
  exact ⟨by simp [World.cell?, hg], by simp [World.cell?, hg], by simp [World.cell?, hg], by simp [World.cell?, hg], by simp [World.cell?, hg], by simp [World.cell?, hg], by simp [World.cell?, hg]⟩
set_option maxRecDepth 100000 in
set_option maxHeartbeats 4000000 in
theorem part32 (p : Nat) (s : ByteArray) : PnC p s D0 32 #[.pointer (some ⟨p, 0, none⟩)] (fldS s.data.toList) (SV p) := by
  intro W a g hN hd
  obtain ⟨R, hRes⟩ : ∃ R, R = fldS s.data.toList (a, g) := ⟨_, rfl⟩
  rw [← hRes]
  have HRes := hidP hRes
  obtain ⟨V0, hV0⟩ : ∃ V0, W.alloc (.cells #[.slice none 0 0, .slice none 0 0] 27) = V0 := ⟨_, rfl⟩
  have g0' : Gr W V0 := by rw [← hV0]; exact gr_alloc W _
  have HBx0 : Hid (V0.heap[W.heap.size]? = some (.cells #[.slice none 0 0, .slice none 0 0] 27 (0, 0))) := by show _ = _; rw [← hV0]; exact heap_alloc_new W _
  have HQ := hidP (field_all p s D0 V0 a g (hN.gr g0') hd)
  have HG0 : Hid (KpN W V0 p) := Gr.n p g0'
  have HNe : Hid (p < W.heap.size) := hN.lt
  obtain ⟨b, hb⟩ : ∃ b, b = W.heap.size := ⟨_, rfl⟩
  have HV := hidP hV0
  clear hN hd g0' hV0 hRes
  go_enter Tryz.func32, Tryz.ntmps32
  go_wp2_with (go_at_call 34; refine Hid.out ?_)
  unfold Hid
  rw [HV.out, ← hb]
  rw [← hb] at HBx0
  have HB := hidP hb
  clear HV hb
  cases hr : fieldP s.data.toList D0 (a, g) with
  | error o =>
    rw [hr] at HQ
    have HE : Hid (R = .error o) := by show R = _; rw [HRes.out]; exact Pr.bind_err hr
    clear hr
    refine Calls.mono HQ.out ?_
    rintro e' U ⟨hk, rfl⟩
    have HK := hidP (HG0.out.tr hk)
    clear hk
    go_wp2_with fail
    exact ⟨rfl, PnQ.err HK.out HE.out⟩
  | ok q =>
    obtain ⟨x, a1, g1⟩ := q
    rw [hr] at HQ
    have HE : Hid (R = .ok (([x], []), (a1, g1))) := by show R = _; rw [HRes.out]; exact Pr.bind_ok hr
    clear hr
    refine Calls.mono HQ.out ?_
    rintro e' U ⟨hk, v, rfl, ⟨ko, kc, rfl, hkc, hrow⟩, hR⟩
    have hbx := (hk.blk (lt_of_heap HBx0.out) (by have := HNe.out; have := HB.out; omega) (IntsB.of HBx0.out (by decide))).trans HBx0.out
    have HBx := hidP hbx
    have HK := hidP (HG0.out.tr hk)
    have HR := hidP hR
    have HL := hidP (And.intro hkc hrow)
    have HLt : Hid (b < V0.heap.size ∧ W.heap.size ≤ V0.heap.size ∧ V0.heap.size ≤ U.heap.size) := ⟨lt_of_heap HBx0.out, HG0.out.size, hk.size⟩
    clear hk hR hbx hkc hrow HBx0 HQ
    go_wp2_with (go_at_call 33; refine Hid.out ?_)
    unfold Hid
    refine Calls.mono (alone_any x.name x.nul x.kind x.width x.id x.index ko x.kids.length kc U) ?_
    rintro e' U2 ⟨gb, rfl, gU, hgb, hcells⟩
    have hbx2 := (gU.block b (lt_of_heap HBx.out) id).trans HBx.out
    have HBx2 := hidP hbx2
    have HK2 := hidP (HK.out.tr (Gr.n p gU))
    have HR2 := hidP (HR.out.gr gU)
    have HC := hidP (And.intro hgb hcells)
    have HL2 : Hid (x.kids.length ≤ kc ∧ RowAt (NB p V0 U2) U2 D0 ko x.kids) := ⟨HL.out.1, HL.out.2.nb (fun z hz => gU.block z hz.2.1 id) gU.size⟩
    have z0 := frz hbx2 0
    have z1 := frz hbx2 1
    have t0 : U2.cell? ⟨b, 0, none⟩ = some (.slice none 0 0) := by simp [World.cell?, hbx2]
    have t1 : U2.cell? ⟨b, 1, none⟩ = some (.slice none 0 0) := by simp [World.cell?, hbx2]
    clear gU hgb hcells hbx2 HBx HK HR HL
    go_wp2_with fail
    have hb3 := put2_box (.slice (some ⟨gb, 0, none⟩) 1 1) (.slice none 0 0) HBx2.out
    have k3 := put2_keeps U2 b (.slice (some ⟨gb, 0, none⟩) 1 1) (.slice none 0 0)
    have kW : KpN W _ p := HK2.out.trans k3 fun z hz h => by have := HB.out; omega
    have hrow := row_one (p := p) (W := V0) HC.out.2 (by have := HC.out.1; have := HLt.out; omega) HL2.out.1 HL2.out.2
    (try simp only [Exit.inBlock, Exit.then])
    exact bodyPost_ret (results_cell26 rfl rfl hb3 (by kernel_rfl)) rfl (PnQ.ok kW HE.out ⟨some ⟨gb, 0, none⟩, 1, none, 0, rfl, Nat.le_refl _, (hrow.nb (fun z hz => k3.block z hz.2.1 (by have := hz.1; have := HLt.out; omega)) k3.size).low HLt.out.2.1, LAt.nil _ _ _ _ _⟩ (HR2.out.kept k3 fun z h => by rw [h]; exact ⟨by have := HNe.out; have := HB.out; omega, by have := HNe.out; have := HB.out; omega, IntsB.of HBx2.out (by decide)⟩))
end Go.Proofs.YtkodgneneiledaaGreatDoor.Kit
