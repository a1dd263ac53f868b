import Derived.Test.YtdihbfjjddmbiaaGreatDoorYF
import Derived.Test.YtdihbfjjddmbiaaGreatDoorRL
set_option maxRecDepth 100000
set_option maxHeartbeats 4000000
namespace Go.Proofs.YtdihbfjjddmbiaaGreatDoor.Kit
open Go.RowKit Go.Shelf Go.Deep
set_option linter.unusedVariables false
set_option linter.unusedSimpArgs false
attribute [local go_sem] run_store_func
theorem kept24_step (S T : Nat → Prop) (d : Nat) (w : World) (hS : ∀ b, S b → b < w.heap.size) (hT : ∀ b, T b → b < w.heap.size) (xo yo : Option Addr) (xc yc : Nat) (l : List FT) (hx : RowM S w (d + 1) xo xc l) (hy : RowAt T w (d + 1) yo l)
    (h24 : ∀ (v : FT) (xo yo : Option Addr) (xc yc : Nat), v ∈ l → RowM S w d xo xc v.kids → RowAt T w d yo v.kids → Ans 24 #[.slice xo v.kids.length xc, .slice yo v.kids.length yc] true w) :
    Ans 24 #[.slice xo l.length xc, .slice yo l.length yc] true w := by
  intro W g0
  have hlen : l.length ≤ 1000000000000 := hx.1
  obtain ⟨hcap, x, rfl, hxb, hmk⟩ := hx.2.1
  have HXr := hidM hx.2.2
  have HYr := hidM hy
  have HS := hidM hS
  have HT := hidM hT
  have H24 := hidM h24
  have HG0 := hidM g0
  have hbl : x < w.heap.size := hS x hxb
  have HXb := hidM hbl
  obtain ⟨n, hn⟩ : ∃ n, n = l.length := ⟨_, rfl⟩
  rw [← hn] at hlen hcap hmk ⊢
  have HN := hidM hn
  have HMK := hidM hmk
  have hcapI : (n : Int) + 3 ≤ (xc : Int) := by omega
  clear hx hy hS hT h24 g0 hn hmk hxb hbl
  go_enter Tryz.func24, Tryz.ntmps24
  go_wp2
  go_loopw [6] (fun p wr => ∃ i : Nat, i ≤ 3 ∧ p = .int .i64 (i : Int) ∧ Hid (Gr W wr)) (fun p _ => 3 - (intOf p).toNat)
  case atStart => exact ⟨0, by omega, rfl, Keeps.refl _ _⟩
  case round =>
    obtain ⟨i, hi, rfl, HK⟩ := hrel
    by_cases hlt : i < 3
    · have hltI : (i : Int) < 3 := by omega
      have gw : Gr w wr := HG0.out.tr HK.out
      have hc := (HMK.out i hlt).kept (gw.block x HXb.out id)
      have e0 : wr.cell? ⟨x, (n + i) * 7, none⟩ = some (.string ⟨#[109]⟩) := hc.c0
      have e1 : wr.cell? ⟨x, (n + i) * 7 + 1, none⟩ = some (.bool false) := hc.c1
      have e2 : wr.cell? ⟨x, (n + i) * 7 + 2, none⟩ = some (.int .i64 (90 + (i : Int))) := hc.c2
      have e3 : wr.cell? ⟨x, (n + i) * 7 + 3, none⟩ = some (.int .i64 0) := hc.c3
      have e4 : wr.cell? ⟨x, (n + i) * 7 + 4, none⟩ = some (.int .i64 0) := hc.c4
      have e5 : wr.cell? ⟨x, (n + i) * 7 + 5, none⟩ = some (.int .i64 0) := hc.c5
      have e6 : wr.cell? ⟨x, (n + i) * 7 + 6, none⟩ = some (.slice none 0 0) := hc.c6
      obtain ⟨V0, hV0⟩ := ex (wr.alloc (.cells #[.string ⟨#[]⟩, .bool false, .int .i64 0, .int .i64 0, .int .i64 0, .int .i64 0, .slice none 0 0] 52))
      have g0 := gr_al hV0
      have b0 : V0.heap[wr.heap.size]? = some (.cells #[.string ⟨#[]⟩, .bool false, .int .i64 0, .int .i64 0, .int .i64 0, .int .i64 0, .slice none 0 0] 52 (0, 0)) := by rw [← hV0]; exact heap_alloc_new wr _
      obtain ⟨z0, z1, z2, z3, z4, z5, z6⟩ := fz7 b0
      obtain ⟨t0, t1, t2, t3, t4, t5, t6⟩ := ce7 b0
      have hb3 := put7_box (.string ⟨#[109]⟩) (.bool false) (.int .i64 (90 + (i : Int))) (.int .i64 0) (.int .i64 0) (.int .i64 0) (.slice none 0 0) b0
      have k3 := put7_keeps V0 wr.heap.size (.string ⟨#[109]⟩) (.bool false) (.int .i64 (90 + (i : Int))) (.int .i64 0) (.int .i64 0) (.int .i64 0) (.slice none 0 0)
      obtain ⟨V1, hV1⟩ := ex ((((((((V0.setCell ⟨wr.heap.size, 0, none⟩ (.string ⟨#[109]⟩)).setCell ⟨wr.heap.size, 1, none⟩ (.bool false)).setCell ⟨wr.heap.size, 2, none⟩ (.int .i64 (90 + (i : Int)))).setCell ⟨wr.heap.size, 3, none⟩ (.int .i64 0)).setCell ⟨wr.heap.size, 4, none⟩ (.int .i64 0)).setCell ⟨wr.heap.size, 5, none⟩ (.int .i64 0)).setCell ⟨wr.heap.size, 6, none⟩ (.slice none 0 0)))
      rw [hV1] at hb3 k3
      have g1 : Gr W V1 := HK.out.tr ((g0.mono fun _ _ h => h.elim).trans k3 (fun j hj h => by omega))
      obtain ⟨q0, q1, q2, q3, q4, q5, q6⟩ := ce7 hb3
      have HG1 := hidM g1
      clear gw hc g0 b0 hb3 k3 g1
      go_wp2_with fail
      go_roundw
      case rel => exact ⟨i + 1, by omega, by simp, HG1.out⟩
      case measure => simp [intOf]; omega
    have hi3 : i = 3 := by omega
    subst hi3
    go_wp2_with fail
    go_loopw [8] (fun p wr => ∃ k : Nat, k ≤ n ∧ p = .int .i64 (k : Int) ∧ Hid (Gr W wr)) (fun p _ => n - (intOf p).toNat)
    case atStart => exact ⟨0, by omega, rfl, HK.out⟩
    case round =>
      clear HK hi hlt
      obtain ⟨k, hk, rfl, HK⟩ := hrel
      by_cases hlt : k < n
      · have hkl : k < l.length := by have := HN.out; omega
        obtain ⟨x', xo', xc', ex, hc, hr⟩ := HXr.out k hkl
        obtain rfl : x = x' := by simpa using ex
        obtain ⟨y, u, rfl, hyb, hys⟩ := HYr.out.2 (fun e => by subst e; simp at hkl)
        obtain ⟨yo', yc', hd, hle', hr'⟩ := hys k hkl
        have hcall := H24.out l[k] xo' yo' xc' yc' (List.getElem_mem hkl) hr hr'
        have gw : Gr w wr := HG0.out.tr HK.out
        have g1 := hc.kept (gw.block x HXb.out id)
        have g2 := hd.kept (gw.block y (HT.out y hyb) id)
        obtain ⟨f, hf⟩ : ∃ f, f = l[k]'hkl := ⟨_, rfl⟩
        rw [← hf] at g1 g2 hcall
        have HQ : Hid (∀ V, Gr wr V → Calls Tryz.prog 24 #[.slice xo' f.kids.length xc', .slice yo' f.kids.length yc'] V fun e w' => e = .returned (.bool true) ∧ Gr V w') := fun V gV => hcall V (gw.tr gV)
        have HC : Hid (wr.cell? ⟨x, k * 7, none⟩ = some (.string f.name) ∧ wr.cell? ⟨x, k * 7 + 1, none⟩ = some (.bool f.nul) ∧ wr.cell? ⟨x, k * 7 + 2, none⟩ = some (.int .i64 f.kind) ∧ wr.cell? ⟨x, k * 7 + 3, none⟩ = some (.int .i64 f.width) ∧ wr.cell? ⟨x, k * 7 + 4, none⟩ = some (.int .i64 f.id) ∧ wr.cell? ⟨x, k * 7 + 5, none⟩ = some (.int .i64 f.index) ∧ wr.cell? ⟨x, k * 7 + 6, none⟩ = some (.slice xo' f.kids.length xc') ∧ wr.cell? ⟨y, u + k * 7, none⟩ = some (.string f.name) ∧ wr.cell? ⟨y, u + k * 7 + 1, none⟩ = some (.bool f.nul) ∧ wr.cell? ⟨y, u + k * 7 + 2, none⟩ = some (.int .i64 f.kind) ∧ wr.cell? ⟨y, u + k * 7 + 3, none⟩ = some (.int .i64 f.width) ∧ wr.cell? ⟨y, u + k * 7 + 4, none⟩ = some (.int .i64 f.id) ∧ wr.cell? ⟨y, u + k * 7 + 5, none⟩ = some (.int .i64 f.index) ∧ wr.cell? ⟨y, u + k * 7 + 6, none⟩ = some (.slice yo' f.kids.length yc')) := ⟨g1.c0, g1.c1, g1.c2, g1.c3, g1.c4, g1.c5, g1.c6, g2.c0, g2.c1, g2.c2, g2.c3, g2.c4, g2.c5, g2.c6⟩
        have e0 : wr.cell? ⟨x, k * 7, none⟩ = some (.string f.name) := HC.out.1
        have e1 : wr.cell? ⟨x, k * 7 + 1, none⟩ = some (.bool f.nul) := HC.out.2.1
        have e2 : wr.cell? ⟨x, k * 7 + 2, none⟩ = some (.int .i64 f.kind) := HC.out.2.2.1
        have e3 : wr.cell? ⟨x, k * 7 + 3, none⟩ = some (.int .i64 f.width) := HC.out.2.2.2.1
        have e4 : wr.cell? ⟨x, k * 7 + 4, none⟩ = some (.int .i64 f.id) := HC.out.2.2.2.2.1
        have e5 : wr.cell? ⟨x, k * 7 + 5, none⟩ = some (.int .i64 f.index) := HC.out.2.2.2.2.2.1
        have e6 : wr.cell? ⟨x, k * 7 + 6, none⟩ = some (.slice xo' f.kids.length xc') := HC.out.2.2.2.2.2.2.1
        have e7 : wr.cell? ⟨y, u + k * 7, none⟩ = some (.string f.name) := HC.out.2.2.2.2.2.2.2.1
        have e8 : wr.cell? ⟨y, u + k * 7 + 1, none⟩ = some (.bool f.nul) := HC.out.2.2.2.2.2.2.2.2.1
        have e9 : wr.cell? ⟨y, u + k * 7 + 2, none⟩ = some (.int .i64 f.kind) := HC.out.2.2.2.2.2.2.2.2.2.1
        have e10 : wr.cell? ⟨y, u + k * 7 + 3, none⟩ = some (.int .i64 f.width) := HC.out.2.2.2.2.2.2.2.2.2.2.1
        have e11 : wr.cell? ⟨y, u + k * 7 + 4, none⟩ = some (.int .i64 f.id) := HC.out.2.2.2.2.2.2.2.2.2.2.2.1
        have e12 : wr.cell? ⟨y, u + k * 7 + 5, none⟩ = some (.int .i64 f.index) := HC.out.2.2.2.2.2.2.2.2.2.2.2.2.1
        have e13 : wr.cell? ⟨y, u + k * 7 + 6, none⟩ = some (.slice yo' f.kids.length yc') := HC.out.2.2.2.2.2.2.2.2.2.2.2.2.2
        have n0 := World.new_ne wr _ e0
        have n1 := World.new_ne wr _ e1
        have n2 := World.new_ne wr _ e2
        have n3 := World.new_ne wr _ e3
        have n4 := World.new_ne wr _ e4
        have n5 := World.new_ne wr _ e5
        have n6 := World.new_ne wr _ e6
        have n7 := World.new_ne wr _ e7
        have n8 := World.new_ne wr _ e8
        have n9 := World.new_ne wr _ e9
        have n10 := World.new_ne wr _ e10
        have n11 := World.new_ne wr _ e11
        have n12 := World.new_ne wr _ e12
        have n13 := World.new_ne wr _ e13
        have HA : Hid (∀ o1 o2, Gr wr ((wr.alloc o1).alloc o2).drew) := fun o1 o2 => ((gr_alloc wr o1).alloc o2).drew
        have hltI : (k : Int) < (n : Int) := by omega
        clear ex hys hc hd hr hr' hcall hf hle' gw g1 g2 HC hkl hyb
        go_wp2
        go_region_held3 (fun w' => w'.cell? ⟨x, k * 7, none⟩ = some (.string f.name) ∧ w'.cell? ⟨x, k * 7 + 1, none⟩ = some (.bool f.nul) ∧ w'.cell? ⟨x, k * 7 + 2, none⟩ = some (.int .i64 f.kind) ∧ w'.cell? ⟨x, k * 7 + 3, none⟩ = some (.int .i64 f.width) ∧ w'.cell? ⟨x, k * 7 + 4, none⟩ = some (.int .i64 f.id) ∧ w'.cell? ⟨x, k * 7 + 5, none⟩ = some (.int .i64 f.index) ∧ w'.cell? ⟨x, k * 7 + 6, none⟩ = some (.slice xo' f.kids.length xc') ∧ w'.cell? ⟨y, u + k * 7, none⟩ = some (.string f.name) ∧ w'.cell? ⟨y, u + k * 7 + 1, none⟩ = some (.bool f.nul) ∧ w'.cell? ⟨y, u + k * 7 + 2, none⟩ = some (.int .i64 f.kind) ∧ w'.cell? ⟨y, u + k * 7 + 3, none⟩ = some (.int .i64 f.width) ∧ w'.cell? ⟨y, u + k * 7 + 4, none⟩ = some (.int .i64 f.id) ∧ w'.cell? ⟨y, u + k * 7 + 5, none⟩ = some (.int .i64 f.index) ∧ w'.cell? ⟨y, u + k * 7 + 6, none⟩ = some (.slice yo' f.kids.length yc')) (go_keep) (fail)
        all_goals
          clear e0 e1 e2 e3 e4 e5 e6 e7 e8 e9 e10 e11 e12 e13 n0 n1 n2 n3 n4 n5 n6 n7 n8 n9 n10 n11 n12 n13
          go_wp2_with (go_at_call 24; refine Hid.out ?_)
          unfold Hid
          refine Calls.mono (HQ.out _ (HA.out _ _)) ?_
          rintro e V1 ⟨rfl, hg1⟩
          have HE := hidM ((HA.out _ _).tr hg1)
          clear hg1
          go_wp2_with fail
          refine ⟨?_, ?measure⟩
          iterate 20 apply Exists.intro
          repeat apply Exists.intro
          refine ⟨?rel, rfl⟩
          case rel => exact ⟨k + 1, by omega, by simp, HK.out.tr HE.out⟩
          case measure => simp [intOf]; omega
      have hkn : k = n := by omega
      subst hkn
      go_wp2_with fail
      all_goals go_ret
      all_goals exact ⟨rfl, HK.out⟩
theorem kept24 (S T : Nat → Prop) (w : World) (hS : ∀ b, S b → b < w.heap.size) (hT : ∀ b, T b → b < w.heap.size) : ∀ (d : Nat) (l : List FT) (xo yo : Option Addr) (xc yc : Nat), RowM S w d xo xc l → RowAt T w d yo l → Ans 24 #[.slice xo l.length xc, .slice yo l.length yc] true w
  | 0, l, xo, yo, xc, yc, hx, hy => by
    have e : l = [] := hy
    subst e
    exact kept24_step S T 0 w hS hT xo yo xc yc [] ⟨by simp [big], hx.mk, fun i hi => by simp at hi⟩ (RowAt.more (d := 0) rfl (Nat.zero_le 1)) (fun g _ _ _ _ hg => by cases hg)
  | d + 1, l, xo, yo, xc, yc, hx, hy => kept24_step S T d w hS hT xo yo xc yc l hx hy (fun g xo yo xc yc _ h1 h2 => kept24 S T w hS hT d g.kids xo yo xc yc h1 h2)
end Go.Proofs.YtdihbfjjddmbiaaGreatDoor.Kit
namespace Go.Proofs.YtdihbfjjddmbiaaGreatDoor.Kit
open Go.RowKit Go.Shelf Go.Deep
set_option linter.unusedVariables false
set_option linter.unusedSimpArgs false
def OwnA (u : World) (e s : Nat) (v : Value) (n : Nat) : Prop := ∃ xs, u.ownsRow 0 e s v n xs
theorem OwnA.kp {u u' : World} {e s n : Nat} {v : Value} (h : OwnA u e s v n) (k : ∀ (g : Nat) (c : Array Value), v.ownBlock = some g → u.heap[g]? = some (.cells c e (0, 0)) → u'.heap[g]? = u.heap[g]?) : OwnA u' e s v n := by
  obtain ⟨xs, hl, h0 | ⟨g, cap, cur, rfl, h1, hg, h2, h3, h4, h5⟩⟩ := h
  · exact ⟨xs, hl, .inl h0⟩
  exact ⟨xs, hl, .inr ⟨g, cap, cur, rfl, h1, (k g cur rfl hg).trans hg, h2, h3, h4, h5⟩⟩
theorem OwnA.set {u : World} {e s n : Nat} {v : Value} (h : OwnA u e s v n) (z off : Nat) (x : Value) : OwnA (u.setCell ⟨z, off, none⟩ x) e s v n := by
  obtain ⟨xs, hl, h0 | ⟨g, cap, cur, rfl, h1, hg, h2, h3, h4, h5⟩⟩ := h
  · exact ⟨xs, hl, .inl h0⟩
  by_cases e' : g = z
  · subst e'
    refine ⟨(cur.setIfInBounds off x).toList.take (n * s), ?_, .inr ⟨g, cap, _, rfl, h1, heap_setCell_same u g off cur e x hg, h2, h3, by simpa using h4, rfl⟩⟩
    have := Nat.mul_le_mul_right s h2
    rw [List.length_take, Array.length_toList, Array.size_setIfInBounds, h4]
    exact Nat.min_eq_left this
  exact ⟨xs, hl, .inr ⟨g, cap, cur, rfl, h1, (heap_setCell_other _ _ _ _ e').trans hg, h2, h3, h4, h5⟩⟩
theorem OwnA.form {u : World} {e s n vc : Nat} {vo : Option Addr} (h : OwnA u e s (.slice vo n vc) n) (hn : 0 < n) : ∃ (g : Nat) (cur : Array Value), vo = some ⟨g, 0, none⟩ ∧ u.heap[g]? = some (.cells cur e (0, 0)) ∧ n * s ≤ cur.size := by
  obtain ⟨xs, hl, ⟨-, h0⟩ | ⟨g, cap, cur, hv, h1, hg, h2, h3, h4, h5⟩⟩ := h
  · omega
  cases hv
  exact ⟨g, cur, rfl, hg, by rw [h4]; exact Nat.mul_le_mul_right s h2⟩
theorem RowI.kept52 {W W' : World} (k : ∀ (b : Nat) (c : Array Value), W.heap[b]? = some (.cells c 52 (0, 0)) → W'.heap[b]? = W.heap[b]?) : ∀ {d lo hi : Nat} {ao : Option Addr} {ca : Nat} {l : List FT}, RowI lo hi W d ao ca l → RowI lo hi W' d ao ca l
  | 0, _, _, _, _, _, h => h
  | _ + 1, lo, hi, _, _, _, h => ⟨h.1, h.2.1, h.2.2.imp id fun ⟨b, cs, e, h1, h2, h3, h4, h5, A, B, hi'⟩ => ⟨b, cs, e, h1, h2, (k b cs h3).trans h3, h4, h5, A, B, fun i hl => by
    obtain ⟨a1, a2, a3, a4, a5, ao', ca', hc, hr⟩ := hi' i hl
    exact ⟨a1, a2, a3, a4, a5, ao', ca', hc.kept (k b cs h3), hr.kept52 k⟩⟩⟩
structure Sp (lo hi : Nat) (W : World) (q : Nat) (x0 x1 x3 x4 x5 x6 : Value) (no : Option Addr) (nn nc : Nat) (vo : Option Addr) (nv vc : Nat) (uo : Option Addr) (nu uc : Nat) (u : World) : Prop where
  kp : Keeps W u (fun z => lo ≤ z ∧ z < hi)
  box : u.heap[q]? = some (.cells #[x0, x1, .slice no nn nc, x3, x4, x5, x6, .slice vo nv vc, .slice uo nu uc] 29 (0, 0))
  q : W.heap.size ≤ q
  n : OwnA u 55 2 (.slice no nn nc) nn
  nb : ∀ g, (Value.slice no nn nc).ownBlock = some g → lo ≤ g ∧ g < hi ∨ W.heap.size ≤ g
  d : OwnA u 44 2 (.slice vo nv vc) nv
  db : ∀ g, (Value.slice vo nv vc).ownBlock = some g → lo ≤ g ∧ g < hi ∨ W.heap.size ≤ g
  s : OwnA u 46 3 (.slice uo nu uc) nu
  sb : ∀ g, (Value.slice uo nu uc).ownBlock = some g → lo ≤ g ∧ g < hi ∨ W.heap.size ≤ g
section
variable {lo hi : Nat} {W u : World} {q : Nat} {x0 x1 x3 x4 x5 x6 : Value} {no : Option Addr} {nn nc : Nat} {vo : Option Addr} {nv vc : Nat} {uo : Option Addr} {nu uc : Nat}
theorem Sp.set (h : Sp lo hi W q x0 x1 x3 x4 x5 x6 no nn nc vo nv vc uo nu uc u) {g e : Nat} {cur : Array Value} (hg : u.heap[g]? = some (.cells cur e (0, 0))) (he : e ≠ 29) (hw : lo ≤ g ∧ g < hi ∨ W.heap.size ≤ g) (off : Nat) (x : Value) : Sp lo hi W q x0 x1 x3 x4 x5 x6 no nn nc vo nv vc uo nu uc (u.setCell ⟨g, off, none⟩ x) := by
  refine ⟨h.kp.setCell (p := ⟨g, off, none⟩) (fun hz => hw.resolve_right (by show ¬ _ ≤ g; have : g < W.heap.size := hz; omega)) x, (heap_setCell_other _ _ _ _ fun e' => ?_).trans h.box, h.q, h.n.set _ _ _, h.nb, h.d.set _ _ _, h.db, h.s.set _ _ _, h.sb⟩
  have e2 : q = g := e'
  rw [← e2, h.box] at hg
  simp at hg
  exact he hg.2.symm
theorem Sp.gr (h : Sp lo hi W q x0 x1 x3 x4 x5 x6 no nn nc vo nv vc uo nu uc u) {u' : World} (k : K52 lo hi u u') : Sp lo hi W q x0 x1 x3 x4 x5 x6 no nn nc vo nv vc uo nu uc u' := by
  have hk : ∀ (g : Nat) (c : Array Value) (e : Nat), e ≠ 52 → u.heap[g]? = some (.cells c e (0, 0)) → u'.heap[g]? = u.heap[g]? := fun g c e he hg => k.block g (lt_of_heap hg) fun ⟨_, c', h'⟩ => by
    rw [hg] at h'
    simp at h'
    exact he h'.2
  exact ⟨h.kp.trans k.keep fun z hz h2 => h2, (hk q _ 29 (by decide) h.box).trans h.box, h.q, h.n.kp fun g c _ hg => hk g c 55 (by decide) hg, h.nb, h.d.kp fun g c _ hg => hk g c 44 (by decide) hg, h.db, h.s.kp fun g c _ hg => hk g c 46 (by decide) hg, h.sb⟩
theorem Sp.appN (h : Sp lo hi W q x0 x1 x3 x4 x5 x6 no nn nc vo nv vc uo nu uc u) {A w3 : World} (gA : Gr u A) {no' : Option Addr} {nc' : Nat} {xs : List Value} (hown : w3.ownsRow 0 55 2 (.slice no' (nn + 1) nc') (nn + 1) xs) (hgrow : A.grownBy w3 (Value.slice no nn nc).ownBlock) (hnew : (Value.slice no' (nn + 1) nc').ownBlock = (Value.slice no nn nc).ownBlock ∨ ∀ g, (Value.slice no' (nn + 1) nc').ownBlock = some g → A.heap.size ≤ g) :
    Sp lo hi W q x0 x1 x3 x4 x5 x6 no' (nn + 1) nc' vo nv vc uo nu uc (w3.setCell ⟨q, 2, none⟩ (.slice no' (nn + 1 : Nat) nc')) ∧ w3.heap[q]? = u.heap[q]? := by
  have kA : Keeps u w3 (fun z => (Value.slice no nn nc).ownBlock = some z) := (gA.mono fun _ _ h => h.elim).tr (Keeps.ofGrown hgrow)
  have ht : ∀ g, (Value.slice no nn nc).ownBlock = some g → ∃ cur, u.heap[g]? = some (.cells cur 55 (0, 0)) := fun g e => by
    obtain ⟨xs, hl, ⟨h0, -⟩ | ⟨g', cap, cur, hv, -, hg, -⟩⟩ := h.n
    · rw [h0] at e; simp [Value.ownBlock] at e
    rw [hv] at e
    have e' : g' = g := by simpa [Value.ownBlock] using e
    subst e'
    exact ⟨cur, hg⟩
  have kU : ∀ (g : Nat) (c : Array Value) (e : Nat), e ≠ 55 → u.heap[g]? = some (.cells c e (0, 0)) → w3.heap[g]? = u.heap[g]? := fun g c e he hg => kA.block g (lt_of_heap hg) fun e' => by
    obtain ⟨cur, hc⟩ := ht g e'
    rw [hg] at hc
    simp at hc
    exact he hc.2
  have hq := (kU q _ 29 (by decide) h.box)
  refine ⟨⟨(h.kp.trans kA fun z hz e => (h.nb z e).resolve_right (by omega)).setCell (p := ⟨q, 2, none⟩) (fun hz => absurd (show q < W.heap.size from hz) (by have := h.q; omega)) _, heap_setCell_same w3 q 2 _ _ _ (hq.trans h.box), h.q, OwnA.set ⟨_, hown⟩ _ _ _, fun g e => hnew.elim (fun p => h.nb g (p ▸ e)) (fun p => .inr (by have := p g e; have := gA.size; have := h.kp.size; omega)), (h.d.kp fun g c e hg => kU g c 44 (by decide) hg).set _ _ _, h.db, (h.s.kp fun g c e hg => kU g c 46 (by decide) hg).set _ _ _, h.sb⟩, hq⟩
theorem Sp.appD (h : Sp lo hi W q x0 x1 x3 x4 x5 x6 no nn nc vo nv vc uo nu uc u) {A w3 : World} (gA : Gr u A) {vo' : Option Addr} {vc' : Nat} {xs : List Value} (hown : w3.ownsRow 0 44 2 (.slice vo' (nv + 1) vc') (nv + 1) xs) (hgrow : A.grownBy w3 (Value.slice vo nv vc).ownBlock) (hnew : (Value.slice vo' (nv + 1) vc').ownBlock = (Value.slice vo nv vc).ownBlock ∨ ∀ g, (Value.slice vo' (nv + 1) vc').ownBlock = some g → A.heap.size ≤ g) :
    Sp lo hi W q x0 x1 x3 x4 x5 x6 no nn nc vo' (nv + 1) vc' uo nu uc (w3.setCell ⟨q, 7, none⟩ (.slice vo' (nv + 1 : Nat) vc')) ∧ w3.heap[q]? = u.heap[q]? := by
  have kA : Keeps u w3 (fun z => (Value.slice vo nv vc).ownBlock = some z) := (gA.mono fun _ _ h => h.elim).tr (Keeps.ofGrown hgrow)
  have ht : ∀ g, (Value.slice vo nv vc).ownBlock = some g → ∃ cur, u.heap[g]? = some (.cells cur 44 (0, 0)) := fun g e => by
    obtain ⟨xs, hl, ⟨h0, -⟩ | ⟨g', cap, cur, hv, -, hg, -⟩⟩ := h.d
    · rw [h0] at e; simp [Value.ownBlock] at e
    rw [hv] at e
    have e' : g' = g := by simpa [Value.ownBlock] using e
    subst e'
    exact ⟨cur, hg⟩
  have kU : ∀ (g : Nat) (c : Array Value) (e : Nat), e ≠ 44 → u.heap[g]? = some (.cells c e (0, 0)) → w3.heap[g]? = u.heap[g]? := fun g c e he hg => kA.block g (lt_of_heap hg) fun e' => by
    obtain ⟨cur, hc⟩ := ht g e'
    rw [hg] at hc
    simp at hc
    exact he hc.2
  have hq := (kU q _ 29 (by decide) h.box)
  refine ⟨⟨(h.kp.trans kA fun z hz e => (h.db z e).resolve_right (by omega)).setCell (p := ⟨q, 7, none⟩) (fun hz => absurd (show q < W.heap.size from hz) (by have := h.q; omega)) _, heap_setCell_same w3 q 7 _ _ _ (hq.trans h.box), h.q, (h.n.kp fun g c e hg => kU g c 55 (by decide) hg).set _ _ _, h.nb, OwnA.set ⟨_, hown⟩ _ _ _, fun g e => hnew.elim (fun p => h.db g (p ▸ e)) (fun p => .inr (by have := p g e; have := gA.size; have := h.kp.size; omega)), (h.s.kp fun g c e hg => kU g c 46 (by decide) hg).set _ _ _, h.sb⟩, hq⟩
theorem Sp.appS (h : Sp lo hi W q x0 x1 x3 x4 x5 x6 no nn nc vo nv vc uo nu uc u) {A w3 : World} (gA : Gr u A) {uo' : Option Addr} {uc' : Nat} {xs : List Value} (hown : w3.ownsRow 0 46 3 (.slice uo' (nu + 1) uc') (nu + 1) xs) (hgrow : A.grownBy w3 (Value.slice uo nu uc).ownBlock) (hnew : (Value.slice uo' (nu + 1) uc').ownBlock = (Value.slice uo nu uc).ownBlock ∨ ∀ g, (Value.slice uo' (nu + 1) uc').ownBlock = some g → A.heap.size ≤ g) :
    Sp lo hi W q x0 x1 x3 x4 x5 x6 no nn nc vo nv vc uo' (nu + 1) uc' (w3.setCell ⟨q, 8, none⟩ (.slice uo' (nu + 1 : Nat) uc')) ∧ w3.heap[q]? = u.heap[q]? := by
  have kA : Keeps u w3 (fun z => (Value.slice uo nu uc).ownBlock = some z) := (gA.mono fun _ _ h => h.elim).tr (Keeps.ofGrown hgrow)
  have ht : ∀ g, (Value.slice uo nu uc).ownBlock = some g → ∃ cur, u.heap[g]? = some (.cells cur 46 (0, 0)) := fun g e => by
    obtain ⟨xs, hl, ⟨h0, -⟩ | ⟨g', cap, cur, hv, -, hg, -⟩⟩ := h.s
    · rw [h0] at e; simp [Value.ownBlock] at e
    rw [hv] at e
    have e' : g' = g := by simpa [Value.ownBlock] using e
    subst e'
    exact ⟨cur, hg⟩
  have kU : ∀ (g : Nat) (c : Array Value) (e : Nat), e ≠ 46 → u.heap[g]? = some (.cells c e (0, 0)) → w3.heap[g]? = u.heap[g]? := fun g c e he hg => kA.block g (lt_of_heap hg) fun e' => by
    obtain ⟨cur, hc⟩ := ht g e'
    rw [hg] at hc
    simp at hc
    exact he hc.2
  have hq := (kU q _ 29 (by decide) h.box)
  refine ⟨⟨(h.kp.trans kA fun z hz e => (h.sb z e).resolve_right (by omega)).setCell (p := ⟨q, 8, none⟩) (fun hz => absurd (show q < W.heap.size from hz) (by have := h.q; omega)) _, heap_setCell_same w3 q 8 _ _ _ (hq.trans h.box), h.q, (h.n.kp fun g c e hg => kU g c 55 (by decide) hg).set _ _ _, h.nb, (h.d.kp fun g c e hg => kU g c 44 (by decide) hg).set _ _ _, h.db, OwnA.set ⟨_, hown⟩ _ _ _, fun g e => hnew.elim (fun p => h.sb g (p ▸ e)) (fun p => .inr (by have := p g e; have := gA.size; have := h.kp.size; omega))⟩, hq⟩
end
end Go.Proofs.YtdihbfjjddmbiaaGreatDoor.Kit
