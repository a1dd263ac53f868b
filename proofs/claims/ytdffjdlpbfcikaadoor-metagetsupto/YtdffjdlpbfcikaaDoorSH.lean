import Derived.Test.YtdffjdlpbfcikaaDoorRW
namespace Go.Proofs.YtdffjdlpbfcikaaDoor.Kit
open Go.RowKit Go.Shelf Go.Deep
set_option linter.unusedVariables false
attribute [local go_sem] run_store_func

/-! ### sameHead 9 of the same heads -/
set_option maxRecDepth 100000 in
set_option maxHeartbeats 4000000 in
theorem same_head {S : Nat → Prop} {D : Nat} {k di rows pr : Int} {dl : Bool} {fo no vo uo fo' no' vo' uo' : Option Addr} {cf cn vc uc cf' cn' vc' uc' : Nat} {fs : List FT} {ns : List (ByteArray × ByteArray)} {nds : List (Int × Int)} {sls : List (Int × Int × Int)} {w : World} (h1 : HeadAt S D w fo no vo uo cf fs ns nds sls) (h2 : HeadAt S D w fo' no' vo' uo' cf' fs ns nds sls) :
    Ans 9 #[.agg #[.int .i64 k, .slice fo fs.length cf, .slice no ns.length cn, .int .i64 di, .bool dl, .int .i64 rows, .int .i64 pr, .slice vo nds.length vc, .slice uo sls.length uc], .agg #[.int .i64 k, .slice fo' fs.length cf', .slice no' ns.length cn', .int .i64 di, .bool dl, .int .i64 rows, .int .i64 pr, .slice vo' nds.length vc', .slice uo' sls.length uc']] true w := by
  intro W g
  have H1 := hidM (h1.gr g)
  have H2 := hidM (h2.gr g)
  have HF : Hid (Ans 21 #[.slice fo fs.length cf, .slice fo' fs.length cf'] true W) := same_fields S W H1.out.s D fs fo fo' cf cf' H1.out.row H2.out.row
  have l1 : nds.length ≤ 1000000000000 := h1.nodes.1
  have l2 : ns.length ≤ 1000000000000 := h1.notes.1
  have l3 : sls.length ≤ 1000000000000 := h1.slots.1
  obtain ⟨nf, hnf⟩ : ∃ n, n = fs.length := ⟨_, rfl⟩
  obtain ⟨nn, hnn⟩ : ∃ n, n = ns.length := ⟨_, rfl⟩
  obtain ⟨nd, hnd⟩ : ∃ n, n = nds.length := ⟨_, rfl⟩
  obtain ⟨nu, hnu⟩ : ∃ n, n = sls.length := ⟨_, rfl⟩
  rw [← hnn, ← hnd, ← hnu, ← hnf]
  rw [← hnf] at HF
  rw [← hnd] at l1
  rw [← hnn] at l2
  rw [← hnu] at l3
  have Hn := hidM (And.intro hnn (And.intro hnd hnu))
  obtain ⟨b, hb⟩ : ∃ b, b = W.heap.size := ⟨_, rfl⟩
  obtain ⟨V, hV⟩ : ∃ V, (W.alloc (.cells #[.int .i64 k, .slice fo nf cf, .slice no nn cn, .int .i64 di, .bool dl, .int .i64 rows, .int .i64 pr, .slice vo nd vc, .slice uo nu uc] 30)).alloc (.cells #[.int .i64 k, .slice fo' nf cf', .slice no' nn cn', .int .i64 di, .bool dl, .int .i64 rows, .int .i64 pr, .slice vo' nd vc', .slice uo' nu uc'] 30) = V := ⟨_, rfl⟩
  have s1 : (W.alloc (.cells #[.int .i64 k, .slice fo nf cf, .slice no nn cn, .int .i64 di, .bool dl, .int .i64 rows, .int .i64 pr, .slice vo nd vc, .slice uo nu uc] 30)).heap.size = b + 1 := by rw [hb]; simp
  have g1 := gr_alloc W (.cells #[.int .i64 k, .slice fo nf cf, .slice no nn cn, .int .i64 di, .bool dl, .int .i64 rows, .int .i64 pr, .slice vo nd vc, .slice uo nu uc] 30)
  have g2 := gr_alloc (W.alloc (.cells #[.int .i64 k, .slice fo nf cf, .slice no nn cn, .int .i64 di, .bool dl, .int .i64 rows, .int .i64 pr, .slice vo nd vc, .slice uo nu uc] 30)) (.cells #[.int .i64 k, .slice fo' nf cf', .slice no' nn cn', .int .i64 di, .bool dl, .int .i64 rows, .int .i64 pr, .slice vo' nd vc', .slice uo' nu uc'] 30)
  have c1 := heap_alloc_new W (.cells #[.int .i64 k, .slice fo nf cf, .slice no nn cn, .int .i64 di, .bool dl, .int .i64 rows, .int .i64 pr, .slice vo nd vc, .slice uo nu uc] 30)
  have c2 := heap_alloc_new (W.alloc (.cells #[.int .i64 k, .slice fo nf cf, .slice no nn cn, .int .i64 di, .bool dl, .int .i64 rows, .int .i64 pr, .slice vo nd vc, .slice uo nu uc] 30)) (.cells #[.int .i64 k, .slice fo' nf cf', .slice no' nn cn', .int .i64 di, .bool dl, .int .i64 rows, .int .i64 pr, .slice vo' nd vc', .slice uo' nu uc'] 30)
  rw [← hb] at c1
  rw [s1] at c2
  have g12 := g1.trans g2 (fun _ _ h => h)
  rw [hV] at g2 g12 c2
  have HA : Hid (V.heap[b]? = some (.cells #[.int .i64 k, .slice fo nf cf, .slice no nn cn, .int .i64 di, .bool dl, .int .i64 rows, .int .i64 pr, .slice vo nd vc, .slice uo nu uc] 30 (0, 0))) := (g2.block b (lt_of_heap c1) id).trans c1
  have HB : Hid (V.heap[b + 1]? = some (.cells #[.int .i64 k, .slice fo' nf cf', .slice no' nn cn', .int .i64 di, .bool dl, .int .i64 rows, .int .i64 pr, .slice vo' nd vc', .slice uo' nu uc'] 30 (0, 0))) := c2
  have HG : Hid (Gr W V) := g12
  have HV := hidM hV
  have Hb := hidM hb
  clear h1 h2 g hnf hnn hnd hnu g1 g2 g12 c1 c2 s1 hV hb
  go_enter Tryd.func9, Tryd.ntmps9
  go_wp2
  rw [HV.out, ← Hb.out]
  clear HV
  go_loopw [5] (fun p wr => ∃ j : Nat, j ≤ nn ∧ p = .int .i64 (j : Int) ∧ Hid (Gr V wr)) (fun p _ => nn - (intOf p).toNat)
  case atStart => exact ⟨0, by omega, rfl, Keeps.refl _ _⟩
  case round =>
    obtain ⟨j, hj, rfl, HK0⟩ := hrel
    have ba := (HK0.out.block b (lt_of_heap HA.out) id).trans HA.out
    have bb := (HK0.out.block (b + 1) (lt_of_heap HB.out) id).trans HB.out
    have pa : wr.cell? ⟨b, 2, none⟩ = some (.slice no nn cn) := by simp [World.cell?, ba]
    have pb : wr.cell? ⟨b + 1, 2, none⟩ = some (.slice no' nn cn') := by simp [World.cell?, bb]
    by_cases hlt : j < nn
    · have hjl : j < ns.length := by have := Hn.out; omega
      have gw : Gr W wr := HG.out.trans HK0.out (fun _ _ h => h)
      obtain ⟨x, o, ex, hxs⟩ := (H1.out.gr gw).notes.2 (fun e => by subst e; simp at hjl)
      obtain ⟨y, u, ey, hys⟩ := (H2.out.gr gw).notes.2 (fun e => by subst e; simp at hjl)
      obtain ⟨f, hf⟩ : ∃ f, f = ns[j]'hjl := ⟨_, rfl⟩
      have hx := hxs j hjl
      have hy := hys j hjl
      rw [← hf] at hx hy
      rw [ex] at pa
      rw [ey] at pb
      have x0 : wr.cell? ⟨x, o + j * 2, none⟩ = some (.string f.1) := hx.1
      have x1 : wr.cell? ⟨x, o + j * 2 + 1, none⟩ = some (.string f.2) := hx.2
      have y0 : wr.cell? ⟨y, u + j * 2, none⟩ = some (.string f.1) := hy.1
      have y1 : wr.cell? ⟨y, u + j * 2 + 1, none⟩ = some (.string f.2) := hy.2
      have hltI : (j : Int) < (nn : Int) := by omega
      clear hx hy hxs hys ex ey ba bb gw hf hjl
      go_wp2
      go_region_held3 (fun w' => w'.cell? ⟨b, 2, none⟩ = some (.slice (some ⟨x, o, none⟩) nn cn) ∧ w'.cell? ⟨b + 1, 2, none⟩ = some (.slice (some ⟨y, u, none⟩) nn cn') ∧ w'.cell? ⟨x, o + j * 2, none⟩ = some (.string f.1) ∧ w'.cell? ⟨x, o + j * 2 + 1, none⟩ = some (.string f.2) ∧ w'.cell? ⟨y, u + j * 2, none⟩ = some (.string f.1) ∧ w'.cell? ⟨y, u + j * 2 + 1, none⟩ = some (.string f.2)) (go_keep) (fail)
      all_goals
        go_wp2_with fail
        go_roundw
        case rel => exact ⟨j + 1, by omega, by simp, HK0.out.drewN _⟩
        case measure => simp [intOf]; omega
    · have hjn : j = nn := by omega
      subst hjn
      clear hlt
      go_wp2
      go_loopw [6] (fun p wr => ∃ j : Nat, j ≤ nd ∧ p = .int .i64 (j : Int) ∧ Hid (Gr V wr)) (fun p _ => nd - (intOf p).toNat)
      case atStart => exact ⟨0, by omega, rfl, HK0.out⟩
      case round =>
        obtain ⟨j, hj, rfl, HK1⟩ := hrel
        have ba := (HK1.out.block b (lt_of_heap HA.out) id).trans HA.out
        have bb := (HK1.out.block (b + 1) (lt_of_heap HB.out) id).trans HB.out
        have pa : wr.cell? ⟨b, 7, none⟩ = some (.slice vo nd vc) := by simp [World.cell?, ba]
        have pb : wr.cell? ⟨b + 1, 7, none⟩ = some (.slice vo' nd vc') := by simp [World.cell?, bb]
        by_cases hlt : j < nd
        · have hjl : j < nds.length := by have := Hn.out; omega
          have gw : Gr W wr := HG.out.trans HK1.out (fun _ _ h => h)
          obtain ⟨x, o, ex, hxs⟩ := (H1.out.gr gw).nodes.2 (fun e => by subst e; simp at hjl)
          obtain ⟨y, u, ey, hys⟩ := (H2.out.gr gw).nodes.2 (fun e => by subst e; simp at hjl)
          obtain ⟨f, hf⟩ : ∃ f, f = nds[j]'hjl := ⟨_, rfl⟩
          have hx := hxs j hjl
          have hy := hys j hjl
          rw [← hf] at hx hy
          rw [ex] at pa
          rw [ey] at pb
          have x0 : wr.cell? ⟨x, o + j * 2, none⟩ = some (.int .i64 f.1) := hx.1
          have x1 : wr.cell? ⟨x, o + j * 2 + 1, none⟩ = some (.int .i64 f.2) := hx.2
          have y0 : wr.cell? ⟨y, u + j * 2, none⟩ = some (.int .i64 f.1) := hy.1
          have y1 : wr.cell? ⟨y, u + j * 2 + 1, none⟩ = some (.int .i64 f.2) := hy.2
          have hltI : (j : Int) < (nd : Int) := by omega
          clear hx hy hxs hys ex ey ba bb gw hf hjl
          go_wp2
          go_region_held3 (fun w' => w'.cell? ⟨b, 7, none⟩ = some (.slice (some ⟨x, o, none⟩) nd vc) ∧ w'.cell? ⟨b + 1, 7, none⟩ = some (.slice (some ⟨y, u, none⟩) nd vc') ∧ w'.cell? ⟨x, o + j * 2, none⟩ = some (.int .i64 f.1) ∧ w'.cell? ⟨x, o + j * 2 + 1, none⟩ = some (.int .i64 f.2) ∧ w'.cell? ⟨y, u + j * 2, none⟩ = some (.int .i64 f.1) ∧ w'.cell? ⟨y, u + j * 2 + 1, none⟩ = some (.int .i64 f.2)) (go_keep) (fail)
          all_goals
            go_wp2_with fail
            go_roundw
            case rel => exact ⟨j + 1, by omega, by simp, HK1.out.drewN _⟩
            case measure => simp [intOf]; omega
        · have hjn : j = nd := by omega
          subst hjn
          clear hlt
          go_wp2
          go_loopw [7] (fun p wr => ∃ j : Nat, j ≤ nu ∧ p = .int .i64 (j : Int) ∧ Hid (Gr V wr)) (fun p _ => nu - (intOf p).toNat)
          case atStart => exact ⟨0, by omega, rfl, HK1.out⟩
          case round =>
            obtain ⟨j, hj, rfl, HK2⟩ := hrel
            have ba := (HK2.out.block b (lt_of_heap HA.out) id).trans HA.out
            have bb := (HK2.out.block (b + 1) (lt_of_heap HB.out) id).trans HB.out
            have pa : wr.cell? ⟨b, 8, none⟩ = some (.slice uo nu uc) := by simp [World.cell?, ba]
            have pb : wr.cell? ⟨b + 1, 8, none⟩ = some (.slice uo' nu uc') := by simp [World.cell?, bb]
            by_cases hlt : j < nu
            · have hjl : j < sls.length := by have := Hn.out; omega
              have gw : Gr W wr := HG.out.trans HK2.out (fun _ _ h => h)
              obtain ⟨x, o, ex, hxs⟩ := (H1.out.gr gw).slots.2 (fun e => by subst e; simp at hjl)
              obtain ⟨y, u, ey, hys⟩ := (H2.out.gr gw).slots.2 (fun e => by subst e; simp at hjl)
              obtain ⟨f, hf⟩ : ∃ f, f = sls[j]'hjl := ⟨_, rfl⟩
              have hx := hxs j hjl
              have hy := hys j hjl
              rw [← hf] at hx hy
              rw [ex] at pa
              rw [ey] at pb
              have x0 : wr.cell? ⟨x, o + j * 3, none⟩ = some (.int .i64 f.1) := hx.1
              have x1 : wr.cell? ⟨x, o + j * 3 + 1, none⟩ = some (.int .i64 f.2.1) := hx.2.1
              have x2 : wr.cell? ⟨x, o + j * 3 + 2, none⟩ = some (.int .i64 f.2.2) := hx.2.2
              have y0 : wr.cell? ⟨y, u + j * 3, none⟩ = some (.int .i64 f.1) := hy.1
              have y1 : wr.cell? ⟨y, u + j * 3 + 1, none⟩ = some (.int .i64 f.2.1) := hy.2.1
              have y2 : wr.cell? ⟨y, u + j * 3 + 2, none⟩ = some (.int .i64 f.2.2) := hy.2.2
              have hltI : (j : Int) < (nu : Int) := by omega
              clear hx hy hxs hys ex ey ba bb gw hf hjl
              go_wp2
              go_region_held3 (fun w' => w'.cell? ⟨b, 8, none⟩ = some (.slice (some ⟨x, o, none⟩) nu uc) ∧ w'.cell? ⟨b + 1, 8, none⟩ = some (.slice (some ⟨y, u, none⟩) nu uc') ∧ w'.cell? ⟨x, o + j * 3, none⟩ = some (.int .i64 f.1) ∧ w'.cell? ⟨x, o + j * 3 + 1, none⟩ = some (.int .i64 f.2.1) ∧ w'.cell? ⟨x, o + j * 3 + 2, none⟩ = some (.int .i64 f.2.2) ∧ w'.cell? ⟨y, u + j * 3, none⟩ = some (.int .i64 f.1) ∧ w'.cell? ⟨y, u + j * 3 + 1, none⟩ = some (.int .i64 f.2.1) ∧ w'.cell? ⟨y, u + j * 3 + 2, none⟩ = some (.int .i64 f.2.2)) (go_keep) (fail)
              all_goals
                go_wp2_with fail
                go_roundw
                case rel => exact ⟨j + 1, by omega, by simp, HK2.out.drewN _⟩
                case measure => simp [intOf]; omega
            · have hjn : j = nu := by omega
              subst hjn
              clear hlt
              have pc : wr.cell? ⟨b, 1, none⟩ = some (.slice fo nf cf) := by simp [World.cell?, ba]
              have pd : wr.cell? ⟨b + 1, 1, none⟩ = some (.slice fo' nf cf') := by simp [World.cell?, bb]
              clear ba bb
              go_wp2_with (go_at_call 21; refine Hid.out ?_)
              unfold Hid
              have g5 : Gr W wr := HG.out.trans HK2.out (fun _ _ h => h)
              refine Calls.mono (HF.out wr g5) ?_
              rintro e V1 ⟨rfl, hg1⟩
              have HE := hidM (g5.trans hg1 (fun _ _ h => h))
              clear hg1 g5
              go_wp2_with fail
              go_ret
              exact ⟨rfl, HE.out⟩
end Go.Proofs.YtdffjdlpbfcikaaDoor.Kit
