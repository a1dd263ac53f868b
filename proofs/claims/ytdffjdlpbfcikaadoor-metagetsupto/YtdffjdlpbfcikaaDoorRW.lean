import Derived.Test.YtdffjdlpbfcikaaDoorRV
import Derived.Test.YtdffjdlpbfcikaaDoorVC
import Derived.Deep.RegionHeld3
namespace Go.Proofs.YtdffjdlpbfcikaaDoor.Kit
open Go.RowKit Go.Shelf Go.Deep
set_option linter.unusedVariables false
attribute [local go_sem] run_store_func

/-! ### sameFields 21 of the same fields -/
set_option maxRecDepth 100000 in
set_option maxHeartbeats 4000000 in
theorem same21 (S : Nat → Prop) (d : Nat) (w : World) (hS : ∀ b, S b → b < w.heap.size) (xo yo : Option Addr) (xc yc : Nat) (l : List FT) (hx : RowAt S w (d + 1) xo l) (hy : RowAt S w (d + 1) yo l)
    (h21 : ∀ (v : FT) (xo yo : Option Addr) (xc yc : Nat), v ∈ l → RowAt S w d xo v.kids → RowAt S w d yo v.kids → Ans 21 #[.slice xo v.kids.length xc, .slice yo v.kids.length yc] true w) :
    Ans 21 #[.slice xo l.length xc, .slice yo l.length yc] true w := by
  intro W g0
  have hlen : l.length ≤ 1000000000000 := hx.len
  have HXr := hidM hx
  have HYr := hidM hy
  have HS := hidM hS
  have H21 := hidM h21
  have HG0 := hidM g0
  obtain ⟨n, hn⟩ : ∃ n, n = l.length := ⟨_, rfl⟩
  rw [← hn] at hlen ⊢
  have HN := hidM hn
  clear hx hy hS h21 g0 hn
  go_enter Tryd.func21, Tryd.ntmps21
  go_wp2
  go_loopw [5] (fun p wr => ∃ k : Nat, k ≤ n ∧ p = .int .i64 (k : Int) ∧ Hid (Gr W wr)) (fun p _ => n - (intOf p).toNat)
  case atStart => exact ⟨0, by omega, rfl, Keeps.refl _ _⟩
  case round =>
    obtain ⟨k, hk, rfl, HK⟩ := hrel
    by_cases hlt : k < n
    · have hkl : k < l.length := by have := HN.out; omega
      obtain ⟨x, o, rfl, hxb, hxs⟩ := HXr.out.2 (fun e => by subst e; simp at hkl)
      obtain ⟨y, u, rfl, hyb, hys⟩ := HYr.out.2 (fun e => by subst e; simp at hkl)
      obtain ⟨xo', xc', hc, hle, hr⟩ := hxs k hkl
      obtain ⟨yo', yc', hd, hle', hr'⟩ := hys k hkl
      have hcall := H21.out l[k] xo' yo' xc' yc' (List.getElem_mem hkl) hr hr'
      have gw : Gr w wr := HG0.out.trans HK.out (fun _ _ h => h)
      have g1 := hc.kept (gw.block x (HS.out x hxb) id)
      have g2 := hd.kept (gw.block y (HS.out y hyb) id)
      obtain ⟨f, hf⟩ : ∃ f, f = l[k]'hkl := ⟨_, rfl⟩
      rw [← hf] at g1 g2 hcall
      have HQ : Hid (∀ V, Gr wr V → Calls Tryd.prog 21 #[.slice xo' f.kids.length xc', .slice yo' f.kids.length yc'] V fun e w' => e = .returned (.bool true) ∧ Gr V w') := fun V gV => hcall V (gw.trans gV (fun _ _ h => h))
      have HC : Hid (wr.cell? ⟨x, o + k * 7, none⟩ = some (.string f.name) ∧ wr.cell? ⟨x, o + k * 7 + 1, none⟩ = some (.bool f.nul) ∧ wr.cell? ⟨x, o + k * 7 + 2, none⟩ = some (.int .i64 f.kind) ∧ wr.cell? ⟨x, o + k * 7 + 3, none⟩ = some (.int .i64 f.width) ∧ wr.cell? ⟨x, o + k * 7 + 4, none⟩ = some (.int .i64 f.id) ∧ wr.cell? ⟨x, o + k * 7 + 5, none⟩ = some (.int .i64 f.index) ∧ wr.cell? ⟨x, o + k * 7 + 6, none⟩ = some (.slice xo' f.kids.length xc') ∧ wr.cell? ⟨y, u + k * 7, none⟩ = some (.string f.name) ∧ wr.cell? ⟨y, u + k * 7 + 1, none⟩ = some (.bool f.nul) ∧ wr.cell? ⟨y, u + k * 7 + 2, none⟩ = some (.int .i64 f.kind) ∧ wr.cell? ⟨y, u + k * 7 + 3, none⟩ = some (.int .i64 f.width) ∧ wr.cell? ⟨y, u + k * 7 + 4, none⟩ = some (.int .i64 f.id) ∧ wr.cell? ⟨y, u + k * 7 + 5, none⟩ = some (.int .i64 f.index) ∧ wr.cell? ⟨y, u + k * 7 + 6, none⟩ = some (.slice yo' f.kids.length yc')) := ⟨g1.c0, g1.c1, g1.c2, g1.c3, g1.c4, g1.c5, g1.c6, g2.c0, g2.c1, g2.c2, g2.c3, g2.c4, g2.c5, g2.c6⟩
      have e0 : wr.cell? ⟨x, o + k * 7, none⟩ = some (.string f.name) := HC.out.1
      have e1 : wr.cell? ⟨x, o + k * 7 + 1, none⟩ = some (.bool f.nul) := HC.out.2.1
      have e2 : wr.cell? ⟨x, o + k * 7 + 2, none⟩ = some (.int .i64 f.kind) := HC.out.2.2.1
      have e3 : wr.cell? ⟨x, o + k * 7 + 3, none⟩ = some (.int .i64 f.width) := HC.out.2.2.2.1
      have e4 : wr.cell? ⟨x, o + k * 7 + 4, none⟩ = some (.int .i64 f.id) := HC.out.2.2.2.2.1
      have e5 : wr.cell? ⟨x, o + k * 7 + 5, none⟩ = some (.int .i64 f.index) := HC.out.2.2.2.2.2.1
      have e6 : wr.cell? ⟨x, o + k * 7 + 6, none⟩ = some (.slice xo' f.kids.length xc') := HC.out.2.2.2.2.2.2.1
      have e7 : wr.cell? ⟨y, u + k * 7, none⟩ = some (.string f.name) := HC.out.2.2.2.2.2.2.2.1
      have e8 : wr.cell? ⟨y, u + k * 7 + 1, none⟩ = some (.bool f.nul) := HC.out.2.2.2.2.2.2.2.2.1
      have e9 : wr.cell? ⟨y, u + k * 7 + 2, none⟩ = some (.int .i64 f.kind) := HC.out.2.2.2.2.2.2.2.2.2.1
      have e10 : wr.cell? ⟨y, u + k * 7 + 3, none⟩ = some (.int .i64 f.width) := HC.out.2.2.2.2.2.2.2.2.2.2.1
      have e11 : wr.cell? ⟨y, u + k * 7 + 4, none⟩ = some (.int .i64 f.id) := HC.out.2.2.2.2.2.2.2.2.2.2.2.1
      have e12 : wr.cell? ⟨y, u + k * 7 + 5, none⟩ = some (.int .i64 f.index) := HC.out.2.2.2.2.2.2.2.2.2.2.2.2.1
      have e13 : wr.cell? ⟨y, u + k * 7 + 6, none⟩ = some (.slice yo' f.kids.length yc') := HC.out.2.2.2.2.2.2.2.2.2.2.2.2.2
      have n0 := World.new_ne wr _ e0
      have n1 := World.new_ne wr _ e1
      have n2 := World.new_ne wr _ e2
      have n3 := World.new_ne wr _ e3
      have n4 := World.new_ne wr _ e4
      have n5 := World.new_ne wr _ e5
      have n6 := World.new_ne wr _ e6
      have n7 := World.new_ne wr _ e7
      have n8 := World.new_ne wr _ e8
      have n9 := World.new_ne wr _ e9
      have n10 := World.new_ne wr _ e10
      have n11 := World.new_ne wr _ e11
      have n12 := World.new_ne wr _ e12
      have n13 := World.new_ne wr _ e13
      have HA : Hid (∀ o1 o2, Gr wr ((wr.alloc o1).alloc o2).drew) := fun o1 o2 => ((gr_alloc wr o1).alloc o2).drew
      have hltI : (k : Int) < (n : Int) := by omega
      clear hxs hys hc hd hr hr' hcall hf hle hle' gw g1 g2 HC hkl hxb hyb
      go_wp2
      go_region_held3 (fun w' => w'.cell? ⟨x, o + k * 7, none⟩ = some (.string f.name) ∧ w'.cell? ⟨x, o + k * 7 + 1, none⟩ = some (.bool f.nul) ∧ w'.cell? ⟨x, o + k * 7 + 2, none⟩ = some (.int .i64 f.kind) ∧ w'.cell? ⟨x, o + k * 7 + 3, none⟩ = some (.int .i64 f.width) ∧ w'.cell? ⟨x, o + k * 7 + 4, none⟩ = some (.int .i64 f.id) ∧ w'.cell? ⟨x, o + k * 7 + 5, none⟩ = some (.int .i64 f.index) ∧ w'.cell? ⟨x, o + k * 7 + 6, none⟩ = some (.slice xo' f.kids.length xc') ∧ w'.cell? ⟨y, u + k * 7, none⟩ = some (.string f.name) ∧ w'.cell? ⟨y, u + k * 7 + 1, none⟩ = some (.bool f.nul) ∧ w'.cell? ⟨y, u + k * 7 + 2, none⟩ = some (.int .i64 f.kind) ∧ w'.cell? ⟨y, u + k * 7 + 3, none⟩ = some (.int .i64 f.width) ∧ w'.cell? ⟨y, u + k * 7 + 4, none⟩ = some (.int .i64 f.id) ∧ w'.cell? ⟨y, u + k * 7 + 5, none⟩ = some (.int .i64 f.index) ∧ w'.cell? ⟨y, u + k * 7 + 6, none⟩ = some (.slice yo' f.kids.length yc')) (go_keep) (fail)
      all_goals
        clear e0 e1 e2 e3 e4 e5 e6 e7 e8 e9 e10 e11 e12 e13 n0 n1 n2 n3 n4 n5 n6 n7 n8 n9 n10 n11 n12 n13
        go_wp2_with (go_at_call 21; refine Hid.out ?_)
        unfold Hid
        refine Calls.mono (HQ.out _ (HA.out _ _)) ?_
        rintro e V1 ⟨rfl, hg1⟩
        have HE := hidM ((HA.out _ _).trans hg1 (fun _ _ h => h))
        clear hg1
        go_wp2_with fail
        go_roundw
        case rel => exact ⟨k + 1, by omega, by simp, HK.out.trans HE.out (fun _ _ h => h)⟩
        case measure => simp [intOf]; omega
    · have hkn : k = n := by omega
      subst hkn
      go_wp2_with fail
      all_goals go_ret
      all_goals exact ⟨rfl, HK.out⟩
theorem RowAt.more {S : Nat → Prop} {W : World} : ∀ {d : Nat} {ao : Option Addr} {l : List FT} {d' : Nat}, RowAt S W d ao l → d ≤ d' → RowAt S W d' ao l
  | 0, _, l, d', h, _ => by
    have e : l = [] := h
    subst e
    cases d' with
    | zero => exact rfl
    | succ d' => exact ⟨by simp [big], fun h => absurd rfl h⟩
  | d + 1, _, _, 0, _, hd => absurd hd (by omega)
  | d + 1, _, _, d' + 1, h, hd => ⟨h.1, fun hn => by
    obtain ⟨b, o, e, hb, hi⟩ := h.2 hn
    refine ⟨b, o, e, hb, fun i hl => ?_⟩
    obtain ⟨ao', ca', hc, hle, hr⟩ := hi i hl
    exact ⟨ao', ca', hc, hle, RowAt.more hr (by omega)⟩⟩
/-- all depths -/
theorem same_fields (S : Nat → Prop) (w : World) (hS : ∀ b, S b → b < w.heap.size) : ∀ (d : Nat) (l : List FT) (xo yo : Option Addr) (xc yc : Nat), RowAt S w d xo l → RowAt S w d yo l → Ans 21 #[.slice xo l.length xc, .slice yo l.length yc] true w
  | 0, l, xo, yo, xc, yc, hx, hy => same21 S 0 w hS xo yo xc yc l (RowAt.more hx (Nat.zero_le 1)) (RowAt.more hy (Nat.zero_le 1)) (fun g _ _ _ _ hg => by
      have e : l = [] := hx
      rw [e] at hg
      cases hg)
  | d + 1, l, xo, yo, xc, yc, hx, hy => same21 S d w hS xo yo xc yc l hx hy (fun g xo yo xc yc _ h1 h2 => same_fields S w hS d g.kids xo yo xc yc h1 h2)
end Go.Proofs.YtdffjdlpbfcikaaDoor.Kit
