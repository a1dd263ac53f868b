import Derived.Test.YtdihbfjjddmbiaaGreatDoorRU
import Derived.Test.YtdihbfjjddmbiaaGreatDoorMB
import Derived.Deep.RegionHeld3
import Derived.Test.YtdihbfjjddmbiaaGreatDoorYE
set_option maxRecDepth 100000
set_option maxHeartbeats 4000000
namespace Go.Proofs.YtdihbfjjddmbiaaGreatDoor.Kit
open Go.RowKit Go.Shelf Go.Deep
set_option linter.unusedVariables false
attribute [local go_sem] run_store_func
theorem get6 (bo : Option Addr) (B : List UInt8) (bc : Nat) (Y : HD → Bool) (W : World) (hby : BytesAt W bo B) (hf : SForm bo B.length bc) (hlen : B.length ≤ 1000000000000) (hlow : ∀ b o, bo = some ⟨b, o, none⟩ → b < W.heap.size)
    (hM : ∀ U V hd s v, headR B (0, 0) = .ok (hd, s) → Gr W U → Gr U V → HV9 U V hd v → Calls Tryz.prog 19 #[v] V fun e w' => e = .returned (.bool (Y hd)) ∧ Gr V w') :
    Calls Tryz.prog 26 #[.slice bo B.length bc] W (GetQ W (getR Y B)) := by
  obtain ⟨R, hRes⟩ : ∃ R, R = getR Y B := ⟨_, rfl⟩
  obtain ⟨m, hm⟩ : ∃ m, m = B.length := ⟨_, rfl⟩
  obtain ⟨b, hb⟩ : ∃ b, b = W.heap.size := ⟨_, rfl⟩
  obtain ⟨V, hV⟩ := ex ((W.alloc (.cells #[.int .i64 0, .slice none 0 0, .slice none 0 0, .int .i64 0, .bool false, .int .i64 0, .int .i64 0, .slice none 0 0, .slice none 0 0] 29)).alloc (.cells #[.int .i64 0, .slice none 0 0, .int .i64 0] 67))
  have s1 : (W.alloc (.cells #[.int .i64 0, .slice none 0 0, .slice none 0 0, .int .i64 0, .bool false, .int .i64 0, .int .i64 0, .slice none 0 0, .slice none 0 0] 29)).heap.size = b + 1 := by rw [hb]; simp
  have g1 := gr_alloc W (.cells #[.int .i64 0, .slice none 0 0, .slice none 0 0, .int .i64 0, .bool false, .int .i64 0, .int .i64 0, .slice none 0 0, .slice none 0 0] 29)
  have g2 := gr_alloc (W.alloc (.cells #[.int .i64 0, .slice none 0 0, .slice none 0 0, .int .i64 0, .bool false, .int .i64 0, .int .i64 0, .slice none 0 0, .slice none 0 0] 29)) (.cells #[.int .i64 0, .slice none 0 0, .int .i64 0] 67)
  have c1 := heap_alloc_new W (.cells #[.int .i64 0, .slice none 0 0, .slice none 0 0, .int .i64 0, .bool false, .int .i64 0, .int .i64 0, .slice none 0 0, .slice none 0 0] 29)
  have c2 := heap_alloc_new (W.alloc (.cells #[.int .i64 0, .slice none 0 0, .slice none 0 0, .int .i64 0, .bool false, .int .i64 0, .int .i64 0, .slice none 0 0, .slice none 0 0] 29)) (.cells #[.int .i64 0, .slice none 0 0, .int .i64 0] 67)
  rw [← hb] at c1
  rw [s1] at c2
  have g12 := g1.tr g2
  rw [hV] at g2 g12 c2
  have HR : Hid (∀ V1, Gr V V1 → Calls Tryz.prog 46 #[.agg #[.slice bo m bc, .int .i64 0, .pointer none]] V1 (GetQ V1 R)) := fun V1 gV => by
    have gW := g12.tr gV
    rw [hRes, hm]
    exact read13 bo B bc Y V1 (hby.gr gW) hf hlen (fun c o e => Nat.lt_of_lt_of_le (hlow c o e) gW.size) fun U V' hd s v hr gU gV' hv => hM U V' hd s v hr (gW.tr gU) gV' hv
  have HO : Hid (∀ X, Calls Tryz.prog 47 #[.slice bo m bc] X fun e w' => e = .returned (.agg #[.slice bo m bc, .int .i64 0, .pointer none]) ∧ Gr X w') := fun X => of_any bo m bc X
  have h9 := (g2.block b (lt_of_heap c1) id).trans c1
  have H93 := hidM (And.intro h9 c2)
  have HG : Hid (Gr W V) := g12
  have HV := hidM hV
  have Hb := hidM hb
  rw [← hRes, ← hm]
  clear hby hf hlen hlow hM hRes hm g1 g2 g12 c1 c2 s1 hV hb h9
  go_enter Tryz.func26, Tryz.ntmps26
  go_wp2_with (go_at_call 47; refine Hid.out ?_)
  unfold Hid
  rw [HV.out, ← Hb.out]
  clear HV
  refine Calls.mono (HO.out V) ?_
  rintro e V1 ⟨rfl, gV⟩
  have HK := hidM (HR.out V1 gV)
  have HgV := hidM gV
  clear gV HR HO
  go_wp2_with (go_at_call 46; refine Hid.out ?_)
  unfold Hid
  refine Calls.mono HK.out ?_
  have Hz : Hid (b + 1 < V1.heap.size) := Nat.lt_of_lt_of_le (lt_of_heap H93.out.2) HgV.out.size
  have Hz1 : Hid (W.heap.size ≤ V1.heap.size) := Nat.le_trans HG.out.size HgV.out.size
  rintro e X ⟨gX, hq⟩
  clear HK
  cases R with
  | ok hd =>
    obtain ⟨v, rfl, hv⟩ := hq
    have HQ := hidM hv
    obtain ⟨fo, fc, no, nc, vo, vc, uo, uc, e, -⟩ := hv
    subst e
    have gVX := HgV.out.tr gX
    have hX9 := (gVX.block b (lt_of_heap H93.out.1) id).trans H93.out.1
    have hX3 := (gVX.block (b + 1) (lt_of_heap H93.out.2) id).trans H93.out.2
    obtain ⟨w0, w1, w2, w3, w4, w5, w6, w7, w8⟩ := ce9 hX9
    obtain ⟨g0, g1, g2, g3, g4, g5, g6, g7, g8⟩ := fz9 hX9
    obtain ⟨r0, r1, r2⟩ := ce3 hX3
    obtain ⟨t0, t1, t2⟩ := fz3 hX3
    have E := fault_end (.int .i64 hd.kind) (.slice fo hd.fs.length fc) (.slice no hd.ns.length nc) (.int .i64 hd.id) (.bool hd.delta) (.int .i64 hd.rows) (.int .i64 hd.press) (.slice vo hd.nds.length vc) (.slice uo hd.sls.length uc) (.int .i64 0) (.slice none 0 0) (.int .i64 0) (by omega) hX9 hX3
    obtain ⟨U2, hU2⟩ := ex (((((((((((((X.setCell ⟨b, 0, none⟩ (.int .i64 hd.kind)).setCell ⟨b, 1, none⟩ (.slice fo hd.fs.length fc)).setCell ⟨b, 2, none⟩ (.slice no hd.ns.length nc)).setCell ⟨b, 3, none⟩ (.int .i64 hd.id)).setCell ⟨b, 4, none⟩ (.bool hd.delta)).setCell ⟨b, 5, none⟩ (.int .i64 hd.rows)).setCell ⟨b, 6, none⟩ (.int .i64 hd.press)).setCell ⟨b, 7, none⟩ (.slice vo hd.nds.length vc)).setCell ⟨b, 8, none⟩ (.slice uo hd.sls.length uc)).setCell ⟨b + 1, 0, none⟩ (.int .i64 0)).setCell ⟨b + 1, 1, none⟩ (.slice none 0 0)).setCell ⟨b + 1, 2, none⟩ (.int .i64 0)))
    rw [hU2] at E
    have HF := hidM E
    have HGX := hidM (HG.out.tr gVX)
    clear E gX gVX hX9 hX3
    go_wp2_with fail
    have gW : Gr W U2 := HGX.out.trans HF.out.2.2 fun j hj h => by have := Hb.out; omega
    exact bodyPost_ret (results_3034 (fn := Tryz.f26) rfl rfl rfl HF.out.1 HF.out.2.1 (by kernel_rfl) (by kernel_rfl)) rfl ⟨gW, _, rfl, (HQ.out.kp HF.out.2.2 fun z hz => by have := Hz.out; omega).low Hz1.out⟩
  | error er =>
    subst hq
    obtain ⟨e1, e2⟩ := er
    have gVX := HgV.out.tr gX
    have hX9 := (gVX.block b (lt_of_heap H93.out.1) id).trans H93.out.1
    have hX3 := (gVX.block (b + 1) (lt_of_heap H93.out.2) id).trans H93.out.2
    obtain ⟨w0, w1, w2, w3, w4, w5, w6, w7, w8⟩ := ce9 hX9
    obtain ⟨g0, g1, g2, g3, g4, g5, g6, g7, g8⟩ := fz9 hX9
    obtain ⟨r0, r1, r2⟩ := ce3 hX3
    obtain ⟨t0, t1, t2⟩ := fz3 hX3
    have E := fault_end (.int .i64 0) (.slice none 0 0) (.slice none 0 0) (.int .i64 0) (.bool false) (.int .i64 0) (.int .i64 0) (.slice none 0 0) (.slice none 0 0) (.int .i64 e1) (.slice none 0 0) (.int .i64 (e2 : Int)) (by omega) hX9 hX3
    obtain ⟨U2, hU2⟩ := ex (((((((((((((X.setCell ⟨b, 0, none⟩ (.int .i64 0)).setCell ⟨b, 1, none⟩ (.slice none 0 0)).setCell ⟨b, 2, none⟩ (.slice none 0 0)).setCell ⟨b, 3, none⟩ (.int .i64 0)).setCell ⟨b, 4, none⟩ (.bool false)).setCell ⟨b, 5, none⟩ (.int .i64 0)).setCell ⟨b, 6, none⟩ (.int .i64 0)).setCell ⟨b, 7, none⟩ (.slice none 0 0)).setCell ⟨b, 8, none⟩ (.slice none 0 0)).setCell ⟨b + 1, 0, none⟩ (.int .i64 e1)).setCell ⟨b + 1, 1, none⟩ (.slice none 0 0)).setCell ⟨b + 1, 2, none⟩ (.int .i64 (e2 : Int))))
    rw [hU2] at E
    have HF := hidM E
    have HGX := hidM (HG.out.tr gVX)
    clear E gX gVX hX9 hX3
    go_wp2_with fail
    have gW : Gr W U2 := HGX.out.trans HF.out.2.2 fun j hj h => by have := Hb.out; omega
    exact bodyPost_ret (results_3034 (fn := Tryz.f26) rfl rfl rfl HF.out.1 HF.out.2.1 (by kernel_rfl) (by kernel_rfl)) rfl ⟨gW, rfl⟩
theorem same21 (S : Nat → Prop) (d : Nat) (w : World) (hS : ∀ b, S b → b < w.heap.size) (xo yo : Option Addr) (xc yc : Nat) (l : List FT) (hx : RowAt S w (d + 1) xo l) (hy : RowAt S w (d + 1) yo l)
    (h21 : ∀ (v : FT) (xo yo : Option Addr) (xc yc : Nat), v ∈ l → RowAt S w d xo v.kids → RowAt S w d yo v.kids → Ans 40 #[.slice xo v.kids.length xc, .slice yo v.kids.length yc] true w) :
    Ans 40 #[.slice xo l.length xc, .slice yo l.length yc] true w := by
  intro W g0
  have hlen : l.length ≤ 1000000000000 := hx.len
  have HXr := hidM hx
  have HYr := hidM hy
  have HS := hidM hS
  have H21 := hidM h21
  have HG0 := hidM g0
  obtain ⟨n, hn⟩ : ∃ n, n = l.length := ⟨_, rfl⟩
  rw [← hn] at hlen ⊢
  have HN := hidM hn
  clear hx hy hS h21 g0 hn
  go_enter Tryz.func40, Tryz.ntmps40
  go_wp2
  go_loopw [5] (fun p wr => ∃ k : Nat, k ≤ n ∧ p = .int .i64 (k : Int) ∧ Hid (Gr W wr)) (fun p _ => n - (intOf p).toNat)
  case atStart => exact ⟨0, by omega, rfl, Keeps.refl _ _⟩
  case round =>
    obtain ⟨k, hk, rfl, HK⟩ := hrel
    by_cases hlt : k < n
    · have hkl : k < l.length := by have := HN.out; omega
      obtain ⟨x, o, rfl, hxb, hxs⟩ := HXr.out.2 (fun e => by subst e; simp at hkl)
      obtain ⟨y, u, rfl, hyb, hys⟩ := HYr.out.2 (fun e => by subst e; simp at hkl)
      obtain ⟨xo', xc', hc, hle, hr⟩ := hxs k hkl
      obtain ⟨yo', yc', hd, hle', hr'⟩ := hys k hkl
      have hcall := H21.out l[k] xo' yo' xc' yc' (List.getElem_mem hkl) hr hr'
      have gw : Gr w wr := HG0.out.tr HK.out
      have g1 := hc.kept (gw.block x (HS.out x hxb) id)
      have g2 := hd.kept (gw.block y (HS.out y hyb) id)
      obtain ⟨f, hf⟩ : ∃ f, f = l[k]'hkl := ⟨_, rfl⟩
      rw [← hf] at g1 g2 hcall
      have HQ : Hid (∀ V, Gr wr V → Calls Tryz.prog 40 #[.slice xo' f.kids.length xc', .slice yo' f.kids.length yc'] V fun e w' => e = .returned (.bool true) ∧ Gr V w') := fun V gV => hcall V (gw.tr gV)
      have HC : Hid (wr.cell? ⟨x, o + k * 7, none⟩ = some (.string f.name) ∧ wr.cell? ⟨x, o + k * 7 + 1, none⟩ = some (.bool f.nul) ∧ wr.cell? ⟨x, o + k * 7 + 2, none⟩ = some (.int .i64 f.kind) ∧ wr.cell? ⟨x, o + k * 7 + 3, none⟩ = some (.int .i64 f.width) ∧ wr.cell? ⟨x, o + k * 7 + 4, none⟩ = some (.int .i64 f.id) ∧ wr.cell? ⟨x, o + k * 7 + 5, none⟩ = some (.int .i64 f.index) ∧ wr.cell? ⟨x, o + k * 7 + 6, none⟩ = some (.slice xo' f.kids.length xc') ∧ wr.cell? ⟨y, u + k * 7, none⟩ = some (.string f.name) ∧ wr.cell? ⟨y, u + k * 7 + 1, none⟩ = some (.bool f.nul) ∧ wr.cell? ⟨y, u + k * 7 + 2, none⟩ = some (.int .i64 f.kind) ∧ wr.cell? ⟨y, u + k * 7 + 3, none⟩ = some (.int .i64 f.width) ∧ wr.cell? ⟨y, u + k * 7 + 4, none⟩ = some (.int .i64 f.id) ∧ wr.cell? ⟨y, u + k * 7 + 5, none⟩ = some (.int .i64 f.index) ∧ wr.cell? ⟨y, u + k * 7 + 6, none⟩ = some (.slice yo' f.kids.length yc')) := ⟨g1.c0, g1.c1, g1.c2, g1.c3, g1.c4, g1.c5, g1.c6, g2.c0, g2.c1, g2.c2, g2.c3, g2.c4, g2.c5, g2.c6⟩
      have e0 : wr.cell? ⟨x, o + k * 7, none⟩ = some (.string f.name) := HC.out.1
      have e1 : wr.cell? ⟨x, o + k * 7 + 1, none⟩ = some (.bool f.nul) := HC.out.2.1
      have e2 : wr.cell? ⟨x, o + k * 7 + 2, none⟩ = some (.int .i64 f.kind) := HC.out.2.2.1
      have e3 : wr.cell? ⟨x, o + k * 7 + 3, none⟩ = some (.int .i64 f.width) := HC.out.2.2.2.1
      have e4 : wr.cell? ⟨x, o + k * 7 + 4, none⟩ = some (.int .i64 f.id) := HC.out.2.2.2.2.1
      have e5 : wr.cell? ⟨x, o + k * 7 + 5, none⟩ = some (.int .i64 f.index) := HC.out.2.2.2.2.2.1
      have e6 : wr.cell? ⟨x, o + k * 7 + 6, none⟩ = some (.slice xo' f.kids.length xc') := HC.out.2.2.2.2.2.2.1
      have e7 : wr.cell? ⟨y, u + k * 7, none⟩ = some (.string f.name) := HC.out.2.2.2.2.2.2.2.1
      have e8 : wr.cell? ⟨y, u + k * 7 + 1, none⟩ = some (.bool f.nul) := HC.out.2.2.2.2.2.2.2.2.1
      have e9 : wr.cell? ⟨y, u + k * 7 + 2, none⟩ = some (.int .i64 f.kind) := HC.out.2.2.2.2.2.2.2.2.2.1
      have e10 : wr.cell? ⟨y, u + k * 7 + 3, none⟩ = some (.int .i64 f.width) := HC.out.2.2.2.2.2.2.2.2.2.2.1
      have e11 : wr.cell? ⟨y, u + k * 7 + 4, none⟩ = some (.int .i64 f.id) := HC.out.2.2.2.2.2.2.2.2.2.2.2.1
      have e12 : wr.cell? ⟨y, u + k * 7 + 5, none⟩ = some (.int .i64 f.index) := HC.out.2.2.2.2.2.2.2.2.2.2.2.2.1
      have e13 : wr.cell? ⟨y, u + k * 7 + 6, none⟩ = some (.slice yo' f.kids.length yc') := HC.out.2.2.2.2.2.2.2.2.2.2.2.2.2
      have n0 := World.new_ne wr _ e0
      have n1 := World.new_ne wr _ e1
      have n2 := World.new_ne wr _ e2
      have n3 := World.new_ne wr _ e3
      have n4 := World.new_ne wr _ e4
      have n5 := World.new_ne wr _ e5
      have n6 := World.new_ne wr _ e6
      have n7 := World.new_ne wr _ e7
      have n8 := World.new_ne wr _ e8
      have n9 := World.new_ne wr _ e9
      have n10 := World.new_ne wr _ e10
      have n11 := World.new_ne wr _ e11
      have n12 := World.new_ne wr _ e12
      have n13 := World.new_ne wr _ e13
      have HA : Hid (∀ o1 o2, Gr wr ((wr.alloc o1).alloc o2).drew) := fun o1 o2 => ((gr_alloc wr o1).alloc o2).drew
      have hltI : (k : Int) < (n : Int) := by omega
      clear hxs hys hc hd hr hr' hcall hf hle hle' gw g1 g2 HC hkl hxb hyb
      go_wp2
      go_region_held3 (fun w' => w'.cell? ⟨x, o + k * 7, none⟩ = some (.string f.name) ∧ w'.cell? ⟨x, o + k * 7 + 1, none⟩ = some (.bool f.nul) ∧ w'.cell? ⟨x, o + k * 7 + 2, none⟩ = some (.int .i64 f.kind) ∧ w'.cell? ⟨x, o + k * 7 + 3, none⟩ = some (.int .i64 f.width) ∧ w'.cell? ⟨x, o + k * 7 + 4, none⟩ = some (.int .i64 f.id) ∧ w'.cell? ⟨x, o + k * 7 + 5, none⟩ = some (.int .i64 f.index) ∧ w'.cell? ⟨x, o + k * 7 + 6, none⟩ = some (.slice xo' f.kids.length xc') ∧ w'.cell? ⟨y, u + k * 7, none⟩ = some (.string f.name) ∧ w'.cell? ⟨y, u + k * 7 + 1, none⟩ = some (.bool f.nul) ∧ w'.cell? ⟨y, u + k * 7 + 2, none⟩ = some (.int .i64 f.kind) ∧ w'.cell? ⟨y, u + k * 7 + 3, none⟩ = some (.int .i64 f.width) ∧ w'.cell? ⟨y, u + k * 7 + 4, none⟩ = some (.int .i64 f.id) ∧ w'.cell? ⟨y, u + k * 7 + 5, none⟩ = some (.int .i64 f.index) ∧ w'.cell? ⟨y, u + k * 7 + 6, none⟩ = some (.slice yo' f.kids.length yc')) (go_keep) (fail)
      all_goals
        clear e0 e1 e2 e3 e4 e5 e6 e7 e8 e9 e10 e11 e12 e13 n0 n1 n2 n3 n4 n5 n6 n7 n8 n9 n10 n11 n12 n13
        go_wp2_with (go_at_call 40; refine Hid.out ?_)
        unfold Hid
        refine Calls.mono (HQ.out _ (HA.out _ _)) ?_
        rintro e V1 ⟨rfl, hg1⟩
        have HE := hidM ((HA.out _ _).tr hg1)
        clear hg1
        go_wp2_with fail
        go_roundw
        case rel => exact ⟨k + 1, by omega, by simp, HK.out.tr HE.out⟩
        case measure => simp [intOf]; omega
    have hkn : k = n := by omega
    subst hkn
    go_wp2_with fail
    all_goals go_ret
    all_goals exact ⟨rfl, HK.out⟩
theorem RowAt.more {S : Nat → Prop} {W : World} : ∀ {d : Nat} {ao : Option Addr} {l : List FT} {d' : Nat}, RowAt S W d ao l → d ≤ d' → RowAt S W d' ao l
  | 0, _, l, d', h, _ => by
    have e : l = [] := h
    subst e
    cases d' with
    | zero => exact rfl
    | succ d' => exact ⟨by simp [big], fun h => absurd rfl h⟩
  | d + 1, _, _, 0, _, hd => absurd hd (by omega)
  | d + 1, _, _, d' + 1, h, hd => ⟨h.1, fun hn => by
    obtain ⟨b, o, e, hb, hi⟩ := h.2 hn
    refine ⟨b, o, e, hb, fun i hl => ?_⟩
    obtain ⟨ao', ca', hc, hle, hr⟩ := hi i hl
    exact ⟨ao', ca', hc, hle, RowAt.more hr (by omega)⟩⟩
theorem same_fields (S : Nat → Prop) (w : World) (hS : ∀ b, S b → b < w.heap.size) : ∀ (d : Nat) (l : List FT) (xo yo : Option Addr) (xc yc : Nat), RowAt S w d xo l → RowAt S w d yo l → Ans 40 #[.slice xo l.length xc, .slice yo l.length yc] true w
  | 0, l, xo, yo, xc, yc, hx, hy => same21 S 0 w hS xo yo xc yc l (RowAt.more hx (Nat.zero_le 1)) (RowAt.more hy (Nat.zero_le 1)) (fun g _ _ _ _ hg => by
      have e : l = [] := hx
      rw [e] at hg
      cases hg)
  | d + 1, l, xo, yo, xc, yc, hx, hy => same21 S d w hS xo yo xc yc l hx hy (fun g xo yo xc yc _ h1 h2 => same_fields S w hS d g.kids xo yo xc yc h1 h2)
end Go.Proofs.YtdihbfjjddmbiaaGreatDoor.Kit
namespace Go.Proofs.YtdihbfjjddmbiaaGreatDoor.Kit
open Go.RowKit Go.Shelf Go.Deep
set_option linter.unusedVariables false
set_option linter.unusedSimpArgs false
attribute [local go_sem] run_store_func
def WiQ (d : Nat) (l : List FT) (W : World) (e : Ending) (w' : World) : Prop :=
  ∃ vo vc, e = .returned (.slice vo l.length vc) ∧ Gr W w' ∧ RowM (fun b => W.heap.size ≤ b ∧ b < w'.heap.size) w' d vo vc l
theorem wide18_step (d : Nat) (T : Nat → Prop) (ao : Option Addr) (ca : Nat) (l : List FT) (W : World) (h18 : l ≠ [] → ∀ ao ca l W, RowAt T W d ao l → (∀ b, T b → b < W.heap.size) → Calls Tryz.prog 18 #[.slice ao l.length ca] W (WiQ d l W))
    (hrow : RowAt T W (d + 1) ao l) (hT : ∀ b, T b → b < W.heap.size) : Calls Tryz.prog 18 #[.slice ao l.length ca] W (WiQ (d + 1) l W) := by
  have hlen : l.length ≤ 1000000000000 := hrow.1
  obtain ⟨n, hn⟩ : ∃ n, n = l.length := ⟨_, rfl⟩
  obtain ⟨A, hA⟩ := ex (W.alloc (.cells #[] 52))
  have gA := gr_al hA
  have bA : A.heap[W.heap.size]? = some (.cells #[] 52 (0, 0)) := by rw [← hA]; exact heap_alloc_new W _
  have HQ : Hid (∀ e w', WiQ (d + 1) l W e w' ↔ ∃ vo vc, e = .returned (.slice vo n vc) ∧ Gr W w' ∧ RowM (fun b => W.heap.size ≤ b ∧ b < w'.heap.size) w' (d + 1) vo vc l) := by rw [hn]; exact fun _ _ => Iff.rfl
  rw [← hn] at hlen ⊢
  have H18 := hidM h18
  have HR := hidM hrow
  have HT := hidM hT
  have HN := hidM hn
  have HF0 : Hid (FM W A d n [] (some ⟨W.heap.size, 0, none⟩) 0) := ⟨⟨⟨rfl, .inr ⟨W.heap.size, 0, #[], rfl, Nat.zero_le _, bA, Nat.le_refl _, Nat.zero_le _, rfl, rfl⟩⟩, fun g e => by
    have e' : W.heap.size = g := by simpa [Value.ownBlock] using e
    omega⟩, fun i hi => by simp at hi⟩
  have HG0 := hidM gA
  clear h18 hrow hT hn gA bA
  go_enter Tryz.func18, Tryz.ntmps18
  go_wp2
  go_loopw [3, 4] (fun v p wr => ∃ (k : Nat) (acc : List FE) (vo : Option Addr) (vc : Nat), k ≤ n ∧ p = .int .i64 (k : Int) ∧ v = .slice vo k vc ∧ Hid (acc.length = k) ∧ Hid (FM W wr d n acc vo vc) ∧ Hid (Gr W wr) ∧ Hid (acc.map (·.1) = l.take k)) (fun _ p _ => n - (intOf p).toNat)
  case atStart => exact ⟨0, [], _, 0, Nat.zero_le _, rfl, rfl, rfl, HF0.out, HG0.out, by simp [Hid]⟩
  case round =>
    obtain ⟨k, acc, vo, vc, hk, rfl, rfl, HL, HF, HG, HM⟩ := hrel
    by_cases hlt : k < n
    · have hkl : k < l.length := by have := HN.out; omega
      have hne : l ≠ [] := fun e => by rw [e] at hkl; simp at hkl
      obtain ⟨b, o, rfl, hb, hi⟩ := HR.out.2 hne
      obtain ⟨ao', ca', hc, hle, hr⟩ := hi k hkl
      obtain ⟨f, hf⟩ : ∃ f, f = l[k]'hkl := ⟨_, rfl⟩
      rw [← hf] at hc hle hr
      have hcw := hc.kept (HG.out.block b (HT.out b hb) id)
      have e0 := hcw.c0
      have e1 := hcw.c1
      have e2 := hcw.c2
      have e3 := hcw.c3
      have e4 := hcw.c4
      have e5 := hcw.c5
      have e6 := hcw.c6
      obtain ⟨V0, hV0⟩ := ex (wr.alloc (.cells #[.string ⟨#[]⟩, .bool false, .int .i64 0, .int .i64 0, .int .i64 0, .int .i64 0, .slice none 0 0] 52))
      have g0 := gr_al hV0
      have b0 : V0.heap[wr.heap.size]? = some (.cells #[.string ⟨#[]⟩, .bool false, .int .i64 0, .int .i64 0, .int .i64 0, .int .i64 0, .slice none 0 0] 52 (0, 0)) := by rw [← hV0]; exact heap_alloc_new wr _
      obtain ⟨z0, z1, z2, z3, z4, z5, z6⟩ := fz7 b0
      obtain ⟨t0, t1, t2, t3, t4, t5, t6⟩ := ce7 b0
      have hb3 := put7_box (.string f.name) (.bool f.nul) (.int .i64 f.kind) (.int .i64 f.width) (.int .i64 f.id) (.int .i64 f.index) (.slice ao' f.kids.length ca') b0
      have k3 := put7_keeps V0 wr.heap.size (.string f.name) (.bool f.nul) (.int .i64 f.kind) (.int .i64 f.width) (.int .i64 f.id) (.int .i64 f.index) (.slice ao' f.kids.length ca')
      obtain ⟨V1, hV1⟩ := ex ((((((((V0.setCell ⟨wr.heap.size, 0, none⟩ (.string f.name)).setCell ⟨wr.heap.size, 1, none⟩ (.bool f.nul)).setCell ⟨wr.heap.size, 2, none⟩ (.int .i64 f.kind)).setCell ⟨wr.heap.size, 3, none⟩ (.int .i64 f.width)).setCell ⟨wr.heap.size, 4, none⟩ (.int .i64 f.id)).setCell ⟨wr.heap.size, 5, none⟩ (.int .i64 f.index)).setCell ⟨wr.heap.size, 6, none⟩ (.slice ao' f.kids.length ca')))
      rw [hV1] at hb3 k3
      have g1 : Gr wr V1 := (g0.mono fun _ _ h => h.elim).trans k3 (fun j hj h => by omega)
      have s6 : V1.cell? ⟨wr.heap.size, 6, none⟩ = some (.slice ao' f.kids.length ca') := by simp [World.cell?, hb3]
      have HC := hidM (H18.out hne ao' ca' f.kids V1 (hr.kept fun z hz => (HG.out.tr g1).block z (HT.out z hz) id) fun z hz => Nat.lt_of_lt_of_le (HT.out z hz) (Nat.le_trans HG.out.size g1.size))
      have HB3 := hidM hb3
      have HG1 := hidM g1
      have HFk : Hid (l.take (k + 1) = l.take k ++ [f]) := by rw [hf]; exact (List.take_succ_eq_append_getElem hkl)
      have hltI : (k : Int) < (n : Int) := by omega
      clear hf hi hc hle hr hcw g0 b0 hb3 k3 g1
      go_wp2_with (go_at_call 18; refine HC.out.mono ?_)
      rintro e w1 ⟨vo', vc', rfl, g2, hrm⟩
      have hb4 := (g2.block _ (lt_of_heap HB3.out) id).trans HB3.out
      have z6' := frz hb4 6
      have s6' : w1.cell? ⟨wr.heap.size, 6, none⟩ = some (.slice ao' f.kids.length ca') := by simp [World.cell?, hb4]
      obtain ⟨V2, hV2⟩ := ex (w1.setCell ⟨wr.heap.size, 6, none⟩ (.slice vo' f.kids.length vc'))
      have hb5 : V2.heap[wr.heap.size]? = some (.cells #[.string f.name, .bool f.nul, .int .i64 f.kind, .int .i64 f.width, .int .i64 f.id, .int .i64 f.index, .slice vo' f.kids.length vc'] 52 (0, 0)) := by rw [← hV2]; exact heap_setCell_same w1 _ 6 _ _ _ hb4
      obtain ⟨q0, q1, q2, q3, q4, q5, q6⟩ := ce7 hb5
      have kV : Keeps w1 V2 (fun z => z = wr.heap.size) := by rw [← hV2]; exact Keeps.setCell (S := fun z => z = wr.heap.size) (p := ⟨wr.heap.size, 6, none⟩) (Keeps.refl w1 _) (fun _ => rfl) _
      have gW : Gr wr V2 := (HG1.out.tr g2).trans kV fun j hj h => by omega
      have HF2 := hidM (HF.out.gr gW)
      have hlt0 : wr.heap.size < V1.heap.size := lt_of_heap HB3.out
      have HRM : Hid (RowM (fun z => wr.heap.size ≤ z ∧ z < V2.heap.size) V2 d vo' vc' f.kids) := (hrm.kept fun z hz => kV.block z hz.2 (by omega)).mono fun z hz => ⟨by omega, Nat.lt_of_lt_of_le hz.2 kV.size⟩
      have HO3 : Hid ((V2.alloc (.cells #[.string f.name, .bool f.nul, .int .i64 f.kind, .int .i64 f.width, .int .i64 f.id, .int .i64 f.index, .slice vo' f.kids.length vc'] 52)).ownsRow 0 52 7 (.slice vo k vc) k (acc.flatMap fcel)) := by have := HF2.out.row.own.alloc (.cells #[.string f.name, .bool f.nul, .int .i64 f.kind, .int .i64 f.width, .int .i64 f.id, .int .i64 f.index, .slice vo' f.kids.length vc'] 52); rwa [HL.out] at this
      have HSr : Hid (Src Tryz.prog 7 22 (.slice (some ⟨V2.heap.size, 0, none⟩) 1 1) 1 (fcel (f, vo', vc')) (V2.alloc (.cells #[.string f.name, .bool f.nul, .int .i64 f.kind, .int .i64 f.width, .int .i64 f.id, .int .i64 f.index, .slice vo' f.kids.length vc'] 52))) := src80 V2 f vo' vc'
      have HG2 := hidM gW
      clear g2 hrm hb4 hb5 kV gW hlt0
      go_wp2_with (at_builtin; refine Hid.out ?_)
      unfold Hid
      refine wpList_append_anyN (P := Tryz.prog) _ rfl (.tmp 24) (.tmp 26) 22 22 rfl 52 (.agg #[.string ⟨#[]⟩, .bool false, .int .i64 0, .int .i64 0, .int .i64 0, .int .i64 0, .slice none 0 0]) 7 80 Tryz.underlying22 info80 rfl _ _ _ rfl HO3.out _ _ _ rfl HSr.out (by omega) (by omega) ?_
      refine Hid.out ?_
      unfold Hid
      intro v' w3 hown hgrow hnew
      obtain ⟨vo2, vc2, rfl⟩ := own_formK hown
      have gA2 : Gr V2 (V2.alloc (.cells #[.string f.name, .bool f.nul, .int .i64 f.kind, .int .i64 f.width, .int .i64 f.id, .int .i64 f.index, .slice vo' f.kids.length vc'] 52)) := gr_alloc V2 _
      have HF3 := hidM (FM.push HG.out.size HG2.out.size HF.out HF2.out HL.out (fun _ => HRM.out) hown hgrow hnew)
      have kA : Keeps wr w3 (fun z => (Value.slice vo k vc).ownBlock = some z) := ((HG2.out.tr gA2).mono fun _ _ h => h.elim).tr (Keeps.ofGrown hgrow)
      have HG3 : Hid (Gr W w3) := HG.out.trans kA fun j hj e => by have := HF.out.row.new j (by rw [HL.out]; exact e); omega
      have HL3 : Hid ((acc ++ [(f, vo', vc')]).length = k + 1) := by show _ = _; rw [List.length_append, HL.out]; rfl
      have HM3 : Hid ((acc ++ [(f, vo', vc')]).map (·.1) = l.take (k + 1)) := by show _ = _; rw [List.map_append, HM.out, HFk.out]; rfl
      clear hown hgrow hnew gA2 kA
      go_wp2_with fail
      go_roundw
      case rel => exact ⟨k + 1, _, vo2, vc2, by omega, by simp, rfl, HL3.out, HF3.out, HG3.out, HM3.out⟩
      case measure => simp [intOf]; omega
    have hkn : k = n := by omega
    subst hkn
    have HMl : Hid (acc.map (·.1) = l) := by show _ = _; rw [HM.out, List.take_of_length_le (by have := HN.out; omega)]
    go_wp2_with fail
    go_loopw [3, 6] (fun v p wr => ∃ (j : Nat) (vo : Option Addr) (vc : Nat), j ≤ 3 ∧ p = .int .i64 (j : Int) ∧ v = .slice vo (k + j : Nat) vc ∧ Hid (FM W wr d k (acc ++ marksE j) vo vc) ∧ Hid (Gr W wr)) (fun _ p _ => 3 - (intOf p).toNat)
    case atStart => exact ⟨0, vo, vc, by omega, rfl, rfl, (by show FM _ _ _ _ (acc ++ []) _ _; rw [List.append_nil]; exact HF.out), HG.out⟩
    case round =>
      obtain ⟨j, vo, vc, hj, rfl, rfl, HF, HG⟩ := hrel
      by_cases hlt2 : j < 3
      · have hltI : (j : Int) < 3 := by omega
        go_wp2_with (go_at_call 31; refine (mark31 j hlt2 _).mono ?_)
        rintro e w1 ⟨rfl, g1⟩
        have HF2 := hidM (HF.out.gr g1)
        have HLj : Hid ((acc ++ marksE j).length = k + j) := by show _ = _; rw [List.length_append, marksE_len, HL.out]
        have HO3 : Hid ((w1.alloc (.cells #[.string ⟨#[109]⟩, .bool false, .int .i64 (90 + (j : Int)), .int .i64 0, .int .i64 0, .int .i64 0, .slice none 0 0] 52)).ownsRow 0 52 7 (.slice vo (k + j) vc) (k + j) ((acc ++ marksE j).flatMap fcel)) := by have := HF2.out.row.own.alloc (.cells #[.string ⟨#[109]⟩, .bool false, .int .i64 (90 + (j : Int)), .int .i64 0, .int .i64 0, .int .i64 0, .slice none 0 0] 52); rwa [HLj.out] at this
        have HSr : Hid (Src Tryz.prog 7 22 (.slice (some ⟨w1.heap.size, 0, none⟩) 1 1) 1 (fcel (markF j, none, 0)) (w1.alloc (.cells #[.string ⟨#[109]⟩, .bool false, .int .i64 (90 + (j : Int)), .int .i64 0, .int .i64 0, .int .i64 0, .slice none 0 0] 52))) := src80 w1 (markF j) none 0
        have HG2 := hidM g1
        clear g1
        go_wp2_with (at_builtin; refine Hid.out ?_)
        unfold Hid
        refine wpList_append_anyN (P := Tryz.prog) _ rfl (.tmp 32) (.tmp 35) 22 22 rfl 52 (.agg #[.string ⟨#[]⟩, .bool false, .int .i64 0, .int .i64 0, .int .i64 0, .int .i64 0, .slice none 0 0]) 7 80 Tryz.underlying22 info80 rfl _ _ _ rfl HO3.out _ _ _ rfl HSr.out (by omega) (by omega) ?_
        refine Hid.out ?_
        unfold Hid
        intro v' w3 hown hgrow hnew
        obtain ⟨vo2, vc2, rfl⟩ := own_formK hown
        have gA2 : Gr w1 (w1.alloc (.cells #[.string ⟨#[109]⟩, .bool false, .int .i64 (90 + (j : Int)), .int .i64 0, .int .i64 0, .int .i64 0, .slice none 0 0] 52)) := gr_alloc w1 _
        have HF3 : Hid (FM W w3 d k (acc ++ marksE (j + 1)) vo2 vc2) := by
          have := FM.push HG.out.size HG2.out.size HF.out HF2.out HLj.out (fun h => absurd h (by omega)) hown hgrow hnew
          rwa [List.append_assoc] at this
        have kA : Keeps wr w3 (fun z => (Value.slice vo (k + j) vc).ownBlock = some z) := ((HG2.out.tr gA2).mono fun _ _ h => h.elim).tr (Keeps.ofGrown hgrow)
        have HG3 : Hid (Gr W w3) := HG.out.trans kA fun z hz e => by have := HF.out.row.new z (by rw [HLj.out]; exact e); omega
        clear hown hgrow hnew gA2 kA
        go_wp2_with fail
        go_roundw
        case rel => exact ⟨j + 1, vo2, vc2, by omega, by simp, rfl, HF3.out, HG3.out⟩
        case measure => simp [intOf]; omega
      have hj3 : j = 3 := by omega
      subst hj3
      have hf3 := HF.out
      rw [← HL.out] at hf3
      obtain ⟨g, rfl, hvc, hrm⟩ := hf3.rowM (by rw [HL.out]; show _ ≤ 1000000000000; omega)
      rw [HMl.out] at hrm
      rw [HL.out] at hvc
      have HRM := hidM hrm
      have hvc2 : (k : Int) ≤ (vc : Int) := by omega
      clear hf3 hrm
      go_wp2_with fail
      go_ret
      exact (HQ.out _ _).2 ⟨_, _, rfl, HG.out, HRM.out⟩
theorem wide18 (T : Nat → Prop) : ∀ (d : Nat) (ao : Option Addr) (ca : Nat) (l : List FT) (W : World), RowAt T W d ao l → (∀ b, T b → b < W.heap.size) → Calls Tryz.prog 18 #[.slice ao l.length ca] W (WiQ d l W)
  | 0, ao, ca, l, W, h, hT => (wide18_step 0 T ao ca l W (fun hn => absurd h hn) (RowAt.more h (Nat.zero_le _)) hT).mono fun e w' ⟨vo, vc, h1, h2, h3⟩ => ⟨vo, vc, h1, h2, by
    have e : l = [] := h
    subst e
    exact ⟨rfl, h3.mk⟩⟩
  | d + 1, ao, ca, l, W, h, hT => wide18_step d T ao ca l W (fun _ => wide18 T d) h hT
end Go.Proofs.YtdihbfjjddmbiaaGreatDoor.Kit
