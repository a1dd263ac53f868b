import Derived.Test.YtffmppnlddphaaaDoorNA
import Derived.Test.YtffmppnlddphaaaDoorNC
import Derived.Test.YtffmppnlddphaaaDoorME
namespace Go.Proofs.YtffmppnlddphaaaDoor.Kit
open Go.RowKit Go.Shelf Go.Deep
set_option linter.unusedVariables false
attribute [local go_sem] run_store_func

/-! ### where a way leads -/
def zFT : FT := ⟨⟨#[]⟩, false, 0, 0, 0, 0, []⟩
def atGo : FT → List FT → List Int → Option FT
  | cur, _, [] => some cur
  | _, l, i :: r => if 0 ≤ i ∧ i < l.length then atGo (l[i.toNat]!) (l[i.toNat]!).kids r else none
def atR (er : Int) (fs : List FT) (path : List Int) : Int × FT :=
  if er ≠ 0 then (5, zFT) else if path = [] then (1, zFT) else match atGo zFT fs path with | none => (2, zFT) | some f => (0, f)
/-- whole numbers in memory -/
def ZsAt (W : World) (po : Option Addr) (l : List Int) : Prop := l ≠ [] → ∃ b o, po = some ⟨b, o, none⟩ ∧ ∀ j (h : j < l.length), W.cell? ⟨b, o + j, none⟩ = some (.int .i64 l[j])
theorem ZsAt.gr {W W' : World} {po : Option Addr} {l : List Int} (h : ZsAt W po l) (g : Gr W W') : ZsAt W' po l := fun hn => by
  obtain ⟨b, o, e, hc⟩ := h hn
  exact ⟨b, o, e, fun j hj => g.cell' (hc j hj) id⟩
/-- what an At answers -/
def AtQ (W : World) (D : Nat) (r : Int × FT) (e : Ending) (w' : World) : Prop := ∃ vo vc, e = .returned (.tuple #[.agg #[.string r.2.name, .bool r.2.nul, .int .i64 r.2.kind, .int .i64 r.2.width, .int .i64 r.2.id, .int .i64 r.2.index, .slice vo r.2.kids.length vc], .int .i64 r.1]) ∧ Gr W w' ∧ r.2.kids.length ≤ vc ∧ RowAt (fun b => b < w'.heap.size) w' D vo r.2.kids
theorem row_none (S : Nat → Prop) (W : World) (D : Nat) (vo : Option Addr) : RowAt S W D vo [] := by
  cases D with
  | zero => rfl
  | succ D => exact ⟨by simp [big], fun h => absurd rfl h⟩
theorem AtQ.zero {W w' : World} {D : Nat} {er : Int} {r : Int × FT} (hr : r = (er, zFT)) (g : Gr W w') : AtQ W D r (.returned (.tuple #[.agg #[.string ⟨#[]⟩, .bool false, .int .i64 0, .int .i64 0, .int .i64 0, .int .i64 0, .slice none 0 0], .int .i64 er])) w' := by
  subst hr
  exact ⟨none, 0, rfl, g, by simp [zFT, FT.kids], row_none _ _ _ _⟩
/-- how far the walk has come -/
structure AtI (S : Nat → Prop) (W wr : World) (D B F : Nat) (fs : List FT) (path : List Int) (k : Nat) (cur : FT) (xo : Option Addr) (xc : Nat) (lst : List FT) (lo : Option Addr) (lc : Nat) : Prop where
  g : Gr W wr
  rest : atGo zFT fs path = atGo cur lst (path.drop k)
  box : wr.heap[F]? = some (.cells #[.string cur.name, .bool cur.nul, .int .i64 cur.kind, .int .i64 cur.width, .int .i64 cur.id, .int .i64 cur.index, .slice xo cur.kids.length xc] 37)
  res : wr.heap[B]? = some (.cells #[.string ⟨#[]⟩, .bool false, .int .i64 0, .int .i64 0, .int .i64 0, .int .i64 0, .slice none 0 0] 37)
  row : RowAt S wr D lo lst
  le : lst.length ≤ lc
  krow : RowAt S wr D xo cur.kids
  kle : cur.kids.length ≤ xc
theorem AtI.keep {S : Nat → Prop} {W wr w' : World} {D B F : Nat} {fs : List FT} {path : List Int} {k : Nat} {cur : FT} {xo : Option Addr} {xc : Nat} {lst : List FT} {lo : Option Addr} {lc : Nat} (h : AtI S W wr D B F fs path k cur xo xc lst lo lc) (hS : ∀ b, S b → b < W.heap.size) (hF : W.heap.size ≤ F) (hBF : B ≠ F)
    {f : FT} {yo : Option Addr} {yc : Nat} (hk : Keeps wr w' (fun b => b = F)) (hb : w'.heap[F]? = some (.cells #[.string f.name, .bool f.nul, .int .i64 f.kind, .int .i64 f.width, .int .i64 f.id, .int .i64 f.index, .slice yo f.kids.length yc] 37)) (hr : RowAt S wr D yo f.kids) (hle : f.kids.length ≤ yc) (hrest : atGo cur lst (path.drop k) = atGo f f.kids (path.drop (k + 1))) : AtI S W w' D B F fs path (k + 1) f yo yc f.kids yo yc := by
  have hSk : KpOf S wr w' := fun b hb => hk.block b (by have := hS b hb; have := h.g.size; omega) (by have := hS b hb; omega)
  exact ⟨h.g.trans hk (fun j hj e => by omega), h.rest.trans hrest, hb, (hk.block B (lt_of_heap h.res) (fun e => hBF e)).trans h.res, hr.kept hSk, hle, hr.kept hSk, hle⟩

set_option maxRecDepth 100000 in
set_option maxHeartbeats 8000000 in
theorem atR_gen {S : Nat → Prop} {D : Nat} {fo no po : Option Addr} {cf nn cn pc : Nat} {fs : List FT} {path : List Int} {er tt : Int} {p : List Nat} {w : World} (h : Tells w 12 (.agg #[.slice fo fs.length cf, .slice no nn cn]) er p tt) (hr : RowAt S w D fo fs) (hcf : fs.length ≤ cf) (hS : ∀ b, S b → b < w.heap.size) (hp : ZsAt w po path) (hpl : path.length ≤ big) :
    ∀ W, Gr w W → Calls Tryd.prog 42 #[.agg #[.slice fo fs.length cf, .slice no nn cn], .slice po path.length pc] W (AtQ W D (atR er fs path)) := by
  intro W g
  have HL := hidM (h.gr g)
  have HRow : Hid (RowAt S W D fo fs) := hr.kept fun b hb => g.block b (hS b hb) id
  have HS : Hid (∀ b, S b → b < W.heap.size) := fun b hb => by have := hS b hb; have := g.size; omega
  have HP := hidM (hp.gr g)
  have hfl' : fs.length ≤ 1000000000000 := hr.len
  have hpl' : path.length ≤ 1000000000000 := hpl
  clear h hr hS hp hpl g
  obtain ⟨L, hL⟩ : ∃ L, L = fs.length := ⟨_, rfl⟩
  obtain ⟨T, hT⟩ : ∃ T, T = path.length := ⟨_, rfl⟩
  rw [← hL] at HL hcf hfl' ⊢
  rw [← hT] at hpl' ⊢
  have HLL := hidM hL
  have HTT := hidM hT
  clear hL hT
  obtain ⟨R, hR⟩ : ∃ R, R = atR er fs path := ⟨_, rfl⟩
  rw [← hR]
  have HR := hidM hR
  clear hR
  unfold Tells at HL
  have hfl : ∀ vo vn vc w, (Instr.field 32 (.agg #[.int .i64 er, .slice vo vn vc, .int .i64 tt]) 0).run Tryd.prog w = .ok (.int .i64 er) w := fun vo vn vc w => by kernel_rfl
  obtain ⟨W0, hW0⟩ : ∃ W0, (W.alloc (.cells #[.slice fo L cf, .slice no nn cn] 27)).alloc (.cells #[.string ⟨#[]⟩, .bool false, .int .i64 0, .int .i64 0, .int .i64 0, .int .i64 0, .slice none 0 0] 37) = W0 := ⟨_, rfl⟩
  have hg0 : Gr W W0 := by rw [← hW0]; exact (gr_alloc W _).alloc _
  have x1 : W0.heap[W.heap.size]? = some (.cells #[.slice fo L cf, .slice no nn cn] 27) := by
    rw [← hW0]; exact (Below.heap_alloc _ _ _ (by simp)).trans (World.alloc_heap_new W _)
  have x2 : W0.heap[W.heap.size + 1]? = some (.cells #[.string ⟨#[]⟩, .bool false, .int .i64 0, .int .i64 0, .int .i64 0, .int .i64 0, .slice none 0 0] 37) := by
    rw [← hW0]
    have := World.alloc_heap_new (W.alloc (.cells #[.slice fo L cf, .slice no nn cn] 27)) (.cells #[.string ⟨#[]⟩, .bool false, .int .i64 0, .int .i64 0, .int .i64 0, .int .i64 0, .slice none 0 0] 37)
    rw [World.size_alloc] at this
    exact this
  have HX := hidM (And.intro hg0 (And.intro x1 x2))
  obtain ⟨p0, p1⟩ := cell2 x1
  clear x1 x2 hg0
  go_enter Tryd.func42, Tryd.ntmps42
  go_wp2_with (go_at_call 12; refine Hid.out ?_)
  unfold Hid
  try rw [hW0]
  refine Calls.mono (HL.out _ HX.out.1) ?_
  rintro e W1 ⟨vo0, vc0, rfl, hg1, -⟩
  have y1 := (hg1.block _ (lt_of_heap HX.out.2.1) id).trans HX.out.2.1
  have y2 := (hg1.block _ (lt_of_heap HX.out.2.2) id).trans HX.out.2.2
  have HY := hidM (And.intro (HX.out.1.trans hg1 (fun _ _ h => h)) (And.intro y1 y2))
  have hB : W.heap.size + 1 < W1.heap.size := lt_of_heap y2
  obtain ⟨B, hBe⟩ : ∃ B, B = W.heap.size + 1 := ⟨_, rfl⟩
  have HBe := hidM hBe
  have q0 : W1.cell? ⟨W.heap.size, 0, none⟩ = some (.slice fo L cf) := by simp [World.cell?, y1]
  rw [← hBe] at y2 HY hB
  obtain ⟨r0, r1, r2, r3, r4, r5, r6⟩ := cell7 y2
  have z0 := frz y2 0
  have z1 := frz y2 1
  have z2 := frz y2 2
  have z3 := frz y2 3
  have z4 := frz y2 4
  have z5 := frz y2 5
  have z6 := frz y2 6
  simp only [Nat.zero_add] at r1 r2 r3 r4 r5 r6
  rw [← hBe]
  clear p0 p1 hW0 y1 y2 hg1 HL HX hBe
  have HZ : Hid (∀ (w2 : World) (c : Int), R = (c, zFT) → Gr W w2 → w2.heap[B]? = some (.cells #[.string ⟨#[]⟩, .bool false, .int .i64 0, .int .i64 0, .int .i64 0, .int .i64 0, .slice none 0 0] 37) → ∃ w3, w3 = (((((((w2.setCell ⟨B, 0, none⟩ (.string ⟨#[]⟩)).setCell ⟨B, 1, none⟩ (.bool false)).setCell ⟨B, 2, none⟩ (.int .i64 0)).setCell ⟨B, 3, none⟩ (.int .i64 0)).setCell ⟨B, 4, none⟩ (.int .i64 0)).setCell ⟨B, 5, none⟩ (.int .i64 0)).setCell ⟨B, 6, none⟩ (.slice none 0 0)) ∧ w3.heap[B]? = some (.cells #[.string ⟨#[]⟩, .bool false, .int .i64 0, .int .i64 0, .int .i64 0, .int .i64 0, .slice none 0 0] 37) ∧ AtQ W D R (.returned (.tuple #[.agg #[.string ⟨#[]⟩, .bool false, .int .i64 0, .int .i64 0, .int .i64 0, .int .i64 0, .slice none 0 0], .int .i64 c])) w3) := fun w2 c hc hg hb => by
    have s7 := set7 (.string ⟨#[]⟩) (.bool false) (.int .i64 0) (.int .i64 0) (.int .i64 0) (.int .i64 0) (.slice none 0 0) hb
    exact ⟨_, rfl, s7.1, AtQ.zero hc (hg.trans s7.2 (fun j hj e => by have := HBe.out; omega))⟩
  by_cases h0 : er = 0
  · subst h0
    by_cases hT0 : T = 0
    · subst hT0
      have hpn : path = [] := List.eq_nil_of_length_eq_zero HTT.out.symm
      have HE := hidM (HZ.out W1 1 (by rw [HR.out, hpn]; simp [atR]) HY.out.1 HY.out.2.2)
      clear hpn
      go_wp2
      obtain ⟨w3, hw3, hb3, hq3⟩ := HE.out
      rw [← hw3]
      obtain ⟨v0, v1, v2, v3, v4, v5, v6⟩ := cell7 hb3
      simp only [Nat.zero_add] at v1 v2 v3 v4 v5 v6
      refine bodyPost_ret (v := .tuple #[.agg #[.string ⟨#[]⟩, .bool false, .int .i64 0, .int .i64 0, .int .i64 0, .int .i64 0, .slice none 0 0], .int .i64 1]) ?_ rfl hq3
      simp [results, Tryd.f42, go_sem, v0, v1, v2, v3, v4, v5, v6]
    · have hTz := beqZ (a := (T : Int)) (b := 0) (by omega)
      have HRR : Hid (∀ o, atGo zFT fs path = o → R = match o with | none => (2, zFT) | some f => (0, f)) := fun o ho => by
        rw [HR.out, ← ho]
        have : path ≠ [] := fun e => hT0 (by rw [HTT.out, e]; rfl)
        simp [atR, this]
      have HI0 : Hid (AtI S W (W1.alloc (.cells #[.string ⟨#[]⟩, .bool false, .int .i64 0, .int .i64 0, .int .i64 0, .int .i64 0, .slice none 0 0] 37)) D B W1.heap.size fs path 0 zFT none 0 fs fo cf) := by
        refine ⟨HY.out.1.alloc _, rfl, World.alloc_heap_new W1 _, (Below.heap_alloc W1 _ _ hB).trans HY.out.2.2, ?_, ?_, row_none _ _ _ _, Nat.le_refl _⟩
        · exact HRow.out.kept fun b hb => (HY.out.1.alloc _).block b (HS.out b hb) id
        · rw [← HLL.out]; exact hcf
      have q0' := fun (o : Obj) => (gr_alloc W1 o).cell' q0 id
      clear z0 z1 z2 z3 z4 z5 z6 r0 r1 r2 r3 r4 r5 r6
      go_wp2
      obtain ⟨F, hF⟩ : ∃ F, F = W1.heap.size := ⟨_, rfl⟩
      rw [← hF] at HI0 ⊢
      have HBF : Hid (B ≠ F ∧ W.heap.size ≤ F) := ⟨by omega, by have := HY.out.1.size; omega⟩
      clear hF hB q0 q0'
      go_loopw [6, 24] (fun v p wr => ∃ (k n : Nat) (cur : FT) (xo : Option Addr) (xc : Nat) (lst : List FT) (lo : Option Addr) (lc : Nat), k ≤ T ∧ n ≤ 1000000000000 ∧ n ≤ lc ∧ v = .slice lo n lc ∧ p = .int .i64 (k : Int) ∧ Hid (n = lst.length ∧ AtI S W wr D B F fs path k cur xo xc lst lo lc)) (fun _ p _ => T - (intOf p).toNat)
      case atStart => exact ⟨0, L, zFT, none, 0, fs, fo, cf, by omega, hfl', hcf, rfl, rfl, HLL.out, HI0.out⟩
      case round =>
        clear HI0
        obtain ⟨k, n, cur, xo, xc, lst, lo, lc, hk, hn, hnlc, rfl, rfl, HK⟩ := hrel
        by_cases hlt : k < T
        · have hkl : k < path.length := by have := HTT.out; omega
          obtain ⟨b, o, rfl, hcs⟩ := HP.out (fun e => by subst e; simp at hkl)
          have g0 := HK.out.2.g.cell' (hcs k hkl) id
          have hdrop : path.drop k = path[k] :: path.drop (k + 1) := List.drop_eq_getElem_cons hkl
          obtain ⟨i, hi⟩ : ∃ i, i = path[k]'hkl := ⟨_, rfl⟩
          rw [← hi] at g0 hdrop
          have HDrop := hidM hdrop
          have hltI : (k : Int) < (T : Int) := by omega
          clear hcs hi hdrop hkl
          have HOut : Hid (¬ (0 ≤ i ∧ i < (n : Int)) → R = (2, zFT)) := fun hno => by
            refine HRR.out none ?_
            rw [HK.out.2.rest, HDrop.out, atGo, if_neg (by rw [← HK.out.1]; exact hno)]
          obtain ⟨s0, s1, s2, s3, s4, s5, s6⟩ := cell7 HK.out.2.res
          simp only [Nat.zero_add] at s1 s2 s3 s4 s5 s6
          have z0 := frz HK.out.2.res 0
          have z1 := frz HK.out.2.res 1
          have z2 := frz HK.out.2.res 2
          have z3 := frz HK.out.2.res 3
          have z4 := frz HK.out.2.res 4
          have z5 := frz HK.out.2.res 5
          have z6 := frz HK.out.2.res 6
          by_cases hneg : i < 0
          · have HE := hidM (HZ.out wr 2 (HOut.out (by omega)) HK.out.2.g HK.out.2.res)
            go_wp2
            obtain ⟨w3, hw3, hb3, hq3⟩ := HE.out
            rw [← hw3]
            obtain ⟨v0, v1, v2, v3, v4, v5, v6⟩ := cell7 hb3
            simp only [Nat.zero_add] at v1 v2 v3 v4 v5 v6
            refine bodyPost_ret (v := .tuple #[.agg #[.string ⟨#[]⟩, .bool false, .int .i64 0, .int .i64 0, .int .i64 0, .int .i64 0, .slice none 0 0], .int .i64 2]) ?_ rfl hq3
            simp [results, Tryd.f42, go_sem, v0, v1, v2, v3, v4, v5, v6]
          · by_cases hbig : (n : Int) ≤ i
            · have HE := hidM (HZ.out wr 2 (HOut.out (by omega)) HK.out.2.g HK.out.2.res)
              go_wp2
              obtain ⟨w3, hw3, hb3, hq3⟩ := HE.out
              rw [← hw3]
              obtain ⟨v0, v1, v2, v3, v4, v5, v6⟩ := cell7 hb3
              simp only [Nat.zero_add] at v1 v2 v3 v4 v5 v6
              refine bodyPost_ret (v := .tuple #[.agg #[.string ⟨#[]⟩, .bool false, .int .i64 0, .int .i64 0, .int .i64 0, .int .i64 0, .slice none 0 0], .int .i64 2]) ?_ rfl hq3
              simp [results, Tryd.f42, go_sem, v0, v1, v2, v3, v4, v5, v6]
            · obtain ⟨j, rfl⟩ : ∃ j : Nat, i = (j : Int) := ⟨i.toNat, by omega⟩
              have hjn : j < n := by omega
              have hjl : j < lst.length := by have := HK.out.1; omega
              have hrow := HK.out.2.row
              obtain ⟨d, rfl⟩ : ∃ d, D = d + 1 := by
                cases D with
                | zero => have : lst = [] := hrow; rw [this] at hjl; simp at hjl
                | succ d => exact ⟨d, rfl⟩
              obtain ⟨b', o', rfl, _, hcs⟩ := hrow.2 (fun e => by subst e; simp at hjl)
              obtain ⟨yo, yc, hc, hle', hr'⟩ := hcs j hjl
              obtain ⟨c0, c1, c2, c3, c4, c5, c6⟩ := hc
              obtain ⟨f, hf⟩ : ∃ f, f = lst[j]'hjl := ⟨_, rfl⟩
              rw [← hf] at c0 c1 c2 c3 c4 c5 c6 hle' hr'
              have hjI : (j : Int) < (n : Int) := by omega
              have hyl : f.kids.length ≤ 1000000000000 := hr'.len
              have hbx := HK.out.2.box
              have s7 := set7 (.string f.name) (.bool f.nul) (.int .i64 f.kind) (.int .i64 f.width) (.int .i64 f.id) (.int .i64 f.index) (.slice yo f.kids.length yc) hbx
              have HN := hidM (HK.out.2.keep (f := f) (yo := yo) (yc := yc) HS.out HBF.out.2 HBF.out.1 s7.2 s7.1 hr'.up hle' (by
                have hb : lst[j]! = f := by rw [hf]; exact getElem!_pos lst j hjl
                rw [HDrop.out, atGo, if_pos (by rw [← HK.out.1]; omega)]
                simp [hb]))
              obtain ⟨t0, t1, t2, t3, t4, t5, t6⟩ := cell7 hbx
              simp only [Nat.zero_add] at t1 t2 t3 t4 t5 t6
              have e0 := frz hbx 0
              have e1 := frz hbx 1
              have e2 := frz hbx 2
              have e3 := frz hbx 3
              have e4 := frz hbx 4
              have e5 := frz hbx 5
              have e6 := frz hbx 6
              clear s0 s1 s2 s3 s4 s5 s6 z0 z1 z2 z3 z4 z5 z6 hcs hrow hr' hbx s7 HK hf hneg hbig HOut
              go_wp2
              go_roundw
              case rel => exact ⟨k + 1, _, f, yo, yc, f.kids, yo, yc, by omega, hyl, hle', rfl, by simp, rfl, HN.out⟩
              case measure => simp [intOf]; omega
        · have hkT : k = T := by omega
          subst hkT
          have hcur : R = (0, cur) := by
            refine HRR.out (some cur) ?_
            rw [HK.out.2.rest, List.drop_of_length_le (by have := HTT.out; omega)]
            rfl
          have HC := hidM hcur
          clear hcur
          have hbx := HK.out.2.box
          have hrs := HK.out.2.res
          have s7 := set7 (.string cur.name) (.bool cur.nul) (.int .i64 cur.kind) (.int .i64 cur.width) (.int .i64 cur.id) (.int .i64 cur.index) (.slice xo cur.kids.length xc) hrs
          have HE : Hid (∃ w3, w3 = (((((((wr.setCell ⟨B, 0, none⟩ (.string cur.name)).setCell ⟨B, 1, none⟩ (.bool cur.nul)).setCell ⟨B, 2, none⟩ (.int .i64 cur.kind)).setCell ⟨B, 3, none⟩ (.int .i64 cur.width)).setCell ⟨B, 4, none⟩ (.int .i64 cur.id)).setCell ⟨B, 5, none⟩ (.int .i64 cur.index)).setCell ⟨B, 6, none⟩ (.slice xo cur.kids.length xc)) ∧ w3.heap[B]? = some (.cells #[.string cur.name, .bool cur.nul, .int .i64 cur.kind, .int .i64 cur.width, .int .i64 cur.id, .int .i64 cur.index, .slice xo cur.kids.length xc] 37) ∧ AtQ W D R (.returned (.tuple #[.agg #[.string cur.name, .bool cur.nul, .int .i64 cur.kind, .int .i64 cur.width, .int .i64 cur.id, .int .i64 cur.index, .slice xo cur.kids.length xc], .int .i64 0])) w3) := by
            refine ⟨_, rfl, s7.1, ?_⟩
            rw [HC.out]
            have hsz := s7.2.size
            have hgs := HK.out.2.g.size
            refine ⟨xo, xc, rfl, HK.out.2.g.trans s7.2 (fun j hj e => by have := HBe.out; omega), HK.out.2.kle, ?_⟩
            exact (HK.out.2.krow.kept fun b hb => s7.2.block b (by have := HS.out b hb; omega) (by have := HS.out b hb; have := HBe.out; omega)).mono fun b hb => by have := HS.out b hb; omega
          obtain ⟨t0, t1, t2, t3, t4, t5, t6⟩ := cell7 hbx
          obtain ⟨s0, s1, s2, s3, s4, s5, s6⟩ := cell7 hrs
          simp only [Nat.zero_add] at t1 t2 t3 t4 t5 t6 s1 s2 s3 s4 s5 s6
          have z0 := frz hrs 0
          have z1 := frz hrs 1
          have z2 := frz hrs 2
          have z3 := frz hrs 3
          have z4 := frz hrs 4
          have z5 := frz hrs 5
          have z6 := frz hrs 6
          clear hbx hrs s7 HK hlt
          go_wp2
          obtain ⟨w3, hw3, hb3, hq3⟩ := HE.out
          rw [← hw3]
          obtain ⟨v0, v1, v2, v3, v4, v5, v6⟩ := cell7 hb3
          simp only [Nat.zero_add] at v1 v2 v3 v4 v5 v6
          refine bodyPost_ret (v := .tuple #[.agg #[.string cur.name, .bool cur.nul, .int .i64 cur.kind, .int .i64 cur.width, .int .i64 cur.id, .int .i64 cur.index, .slice xo cur.kids.length xc], .int .i64 0]) ?_ rfl hq3
          simp [results, Tryd.f42, go_sem, v0, v1, v2, v3, v4, v5, v6]
  · have hz := beqZ h0
    have HE := hidM (HZ.out W1 5 (by rw [HR.out]; simp [atR, h0]) HY.out.1 HY.out.2.2)
    go_wp2
    obtain ⟨w3, hw3, hb3, hq3⟩ := HE.out
    rw [← hw3]
    obtain ⟨v0, v1, v2, v3, v4, v5, v6⟩ := cell7 hb3
    simp only [Nat.zero_add] at v1 v2 v3 v4 v5 v6
    refine bodyPost_ret (v := .tuple #[.agg #[.string ⟨#[]⟩, .bool false, .int .i64 0, .int .i64 0, .int .i64 0, .int .i64 0, .slice none 0 0], .int .i64 5]) ?_ rfl hq3
    simp [results, Tryd.f42, go_sem, v0, v1, v2, v3, v4, v5, v6]

set_option maxRecDepth 100000 in
set_option maxHeartbeats 8000000 in
theorem at_gen {S : Nat → Prop} {D : Nat} {fo no po : Option Addr} {cf nn cn pc : Nat} {fs : List FT} {path : List Int} {er : Int} {w : World} (h : Ans 60 #[.agg #[.slice fo fs.length cf, .slice no nn cn]] (er == 0) w) (hr : RowAt S w D fo fs) (hcf : fs.length ≤ cf) (hS : ∀ b, S b → b < w.heap.size) (hp : ZsAt w po path) (hpl : path.length ≤ big) :
    ∀ W, Gr w W → Calls Tryd.prog 41 #[.agg #[.slice fo fs.length cf, .slice no nn cn], .slice po path.length pc] W (AtQ W D (atR er fs path)) := by
  intro W g
  have HL := hidM (h.gr g)
  have HRow : Hid (RowAt S W D fo fs) := hr.kept fun b hb => g.block b (hS b hb) id
  have HS : Hid (∀ b, S b → b < W.heap.size) := fun b hb => by have := hS b hb; have := g.size; omega
  have HP := hidM (hp.gr g)
  have hfl' : fs.length ≤ 1000000000000 := hr.len
  have hpl' : path.length ≤ 1000000000000 := hpl
  clear h hr hS hp hpl g
  obtain ⟨L, hL⟩ : ∃ L, L = fs.length := ⟨_, rfl⟩
  obtain ⟨T, hT⟩ : ∃ T, T = path.length := ⟨_, rfl⟩
  rw [← hL] at HL hcf hfl' ⊢
  rw [← hT] at hpl' ⊢
  have HLL := hidM hL
  have HTT := hidM hT
  clear hL hT
  obtain ⟨R, hR⟩ : ∃ R, R = atR er fs path := ⟨_, rfl⟩
  rw [← hR]
  have HR := hidM hR
  clear hR
  unfold Ans at HL
  obtain ⟨W0, hW0⟩ : ∃ W0, (W.alloc (.cells #[.slice fo L cf, .slice no nn cn] 27)).alloc (.cells #[.string ⟨#[]⟩, .bool false, .int .i64 0, .int .i64 0, .int .i64 0, .int .i64 0, .slice none 0 0] 37) = W0 := ⟨_, rfl⟩
  have hg0 : Gr W W0 := by rw [← hW0]; exact (gr_alloc W _).alloc _
  have x1 : W0.heap[W.heap.size]? = some (.cells #[.slice fo L cf, .slice no nn cn] 27) := by
    rw [← hW0]; exact (Below.heap_alloc _ _ _ (by simp)).trans (World.alloc_heap_new W _)
  have x2 : W0.heap[W.heap.size + 1]? = some (.cells #[.string ⟨#[]⟩, .bool false, .int .i64 0, .int .i64 0, .int .i64 0, .int .i64 0, .slice none 0 0] 37) := by
    rw [← hW0]
    have := World.alloc_heap_new (W.alloc (.cells #[.slice fo L cf, .slice no nn cn] 27)) (.cells #[.string ⟨#[]⟩, .bool false, .int .i64 0, .int .i64 0, .int .i64 0, .int .i64 0, .slice none 0 0] 37)
    rw [World.size_alloc] at this
    exact this
  have HX := hidM (And.intro hg0 (And.intro x1 x2))
  obtain ⟨p0, p1⟩ := cell2 x1
  clear x1 x2 hg0
  go_enter Tryd.func41, Tryd.ntmps41
  go_wp2_with (go_at_call 60; refine Hid.out ?_)
  unfold Hid
  try rw [hW0]
  refine Calls.mono (HL.out _ HX.out.1) ?_
  rintro e W1 ⟨rfl, hg1⟩
  have y1 := (hg1.block _ (lt_of_heap HX.out.2.1) id).trans HX.out.2.1
  have y2 := (hg1.block _ (lt_of_heap HX.out.2.2) id).trans HX.out.2.2
  have HY := hidM (And.intro (HX.out.1.trans hg1 (fun _ _ h => h)) (And.intro y1 y2))
  have hB : W.heap.size + 1 < W1.heap.size := lt_of_heap y2
  obtain ⟨B, hBe⟩ : ∃ B, B = W.heap.size + 1 := ⟨_, rfl⟩
  have HBe := hidM hBe
  have q0 : W1.cell? ⟨W.heap.size, 0, none⟩ = some (.slice fo L cf) := by simp [World.cell?, y1]
  rw [← hBe] at y2 HY hB
  obtain ⟨r0, r1, r2, r3, r4, r5, r6⟩ := cell7 y2
  have z0 := frz y2 0
  have z1 := frz y2 1
  have z2 := frz y2 2
  have z3 := frz y2 3
  have z4 := frz y2 4
  have z5 := frz y2 5
  have z6 := frz y2 6
  simp only [Nat.zero_add] at r1 r2 r3 r4 r5 r6
  rw [← hBe]
  clear p0 p1 hW0 y1 y2 hg1 HL HX hBe
  have HZ : Hid (∀ (w2 : World) (c : Int), R = (c, zFT) → Gr W w2 → w2.heap[B]? = some (.cells #[.string ⟨#[]⟩, .bool false, .int .i64 0, .int .i64 0, .int .i64 0, .int .i64 0, .slice none 0 0] 37) → ∃ w3, w3 = (((((((w2.setCell ⟨B, 0, none⟩ (.string ⟨#[]⟩)).setCell ⟨B, 1, none⟩ (.bool false)).setCell ⟨B, 2, none⟩ (.int .i64 0)).setCell ⟨B, 3, none⟩ (.int .i64 0)).setCell ⟨B, 4, none⟩ (.int .i64 0)).setCell ⟨B, 5, none⟩ (.int .i64 0)).setCell ⟨B, 6, none⟩ (.slice none 0 0)) ∧ w3.heap[B]? = some (.cells #[.string ⟨#[]⟩, .bool false, .int .i64 0, .int .i64 0, .int .i64 0, .int .i64 0, .slice none 0 0] 37) ∧ AtQ W D R (.returned (.tuple #[.agg #[.string ⟨#[]⟩, .bool false, .int .i64 0, .int .i64 0, .int .i64 0, .int .i64 0, .slice none 0 0], .int .i64 c])) w3) := fun w2 c hc hg hb => by
    have s7 := set7 (.string ⟨#[]⟩) (.bool false) (.int .i64 0) (.int .i64 0) (.int .i64 0) (.int .i64 0) (.slice none 0 0) hb
    exact ⟨_, rfl, s7.1, AtQ.zero hc (hg.trans s7.2 (fun j hj e => by have := HBe.out; omega))⟩
  by_cases h0 : er = 0
  · subst h0
    by_cases hT0 : T = 0
    · subst hT0
      have hpn : path = [] := List.eq_nil_of_length_eq_zero HTT.out.symm
      have HE := hidM (HZ.out W1 1 (by rw [HR.out, hpn]; simp [atR]) HY.out.1 HY.out.2.2)
      clear hpn
      go_wp2
      obtain ⟨w3, hw3, hb3, hq3⟩ := HE.out
      rw [← hw3]
      obtain ⟨v0, v1, v2, v3, v4, v5, v6⟩ := cell7 hb3
      simp only [Nat.zero_add] at v1 v2 v3 v4 v5 v6
      refine bodyPost_ret (v := .tuple #[.agg #[.string ⟨#[]⟩, .bool false, .int .i64 0, .int .i64 0, .int .i64 0, .int .i64 0, .slice none 0 0], .int .i64 1]) ?_ rfl hq3
      simp [results, Tryd.f41, go_sem, v0, v1, v2, v3, v4, v5, v6]
    · have hTz := beqZ (a := (T : Int)) (b := 0) (by omega)
      have HRR : Hid (∀ o, atGo zFT fs path = o → R = match o with | none => (2, zFT) | some f => (0, f)) := fun o ho => by
        rw [HR.out, ← ho]
        have : path ≠ [] := fun e => hT0 (by rw [HTT.out, e]; rfl)
        simp [atR, this]
      have HI0 : Hid (AtI S W (W1.alloc (.cells #[.string ⟨#[]⟩, .bool false, .int .i64 0, .int .i64 0, .int .i64 0, .int .i64 0, .slice none 0 0] 37)) D B W1.heap.size fs path 0 zFT none 0 fs fo cf) := by
        refine ⟨HY.out.1.alloc _, rfl, World.alloc_heap_new W1 _, (Below.heap_alloc W1 _ _ hB).trans HY.out.2.2, ?_, ?_, row_none _ _ _ _, Nat.le_refl _⟩
        · exact HRow.out.kept fun b hb => (HY.out.1.alloc _).block b (HS.out b hb) id
        · rw [← HLL.out]; exact hcf
      have q0' := fun (o : Obj) => (gr_alloc W1 o).cell' q0 id
      clear z0 z1 z2 z3 z4 z5 z6 r0 r1 r2 r3 r4 r5 r6
      go_wp2
      obtain ⟨F, hF⟩ : ∃ F, F = W1.heap.size := ⟨_, rfl⟩
      rw [← hF] at HI0 ⊢
      have HBF : Hid (B ≠ F ∧ W.heap.size ≤ F) := ⟨by omega, by have := HY.out.1.size; omega⟩
      clear hF hB q0 q0'
      go_loopw [7, 22] (fun v p wr => ∃ (k n : Nat) (cur : FT) (xo : Option Addr) (xc : Nat) (lst : List FT) (lo : Option Addr) (lc : Nat), k ≤ T ∧ n ≤ 1000000000000 ∧ n ≤ lc ∧ v = .slice lo n lc ∧ p = .int .i64 (k : Int) ∧ Hid (n = lst.length ∧ AtI S W wr D B F fs path k cur xo xc lst lo lc)) (fun _ p _ => T - (intOf p).toNat)
      case atStart => exact ⟨0, L, zFT, none, 0, fs, fo, cf, by omega, hfl', hcf, rfl, rfl, HLL.out, HI0.out⟩
      case round =>
        clear HI0
        obtain ⟨k, n, cur, xo, xc, lst, lo, lc, hk, hn, hnlc, rfl, rfl, HK⟩ := hrel
        by_cases hlt : k < T
        · have hkl : k < path.length := by have := HTT.out; omega
          obtain ⟨b, o, rfl, hcs⟩ := HP.out (fun e => by subst e; simp at hkl)
          have g0 := HK.out.2.g.cell' (hcs k hkl) id
          have hdrop : path.drop k = path[k] :: path.drop (k + 1) := List.drop_eq_getElem_cons hkl
          obtain ⟨i, hi⟩ : ∃ i, i = path[k]'hkl := ⟨_, rfl⟩
          rw [← hi] at g0 hdrop
          have HDrop := hidM hdrop
          have hltI : (k : Int) < (T : Int) := by omega
          clear hcs hi hdrop hkl
          have HOut : Hid (¬ (0 ≤ i ∧ i < (n : Int)) → R = (2, zFT)) := fun hno => by
            refine HRR.out none ?_
            rw [HK.out.2.rest, HDrop.out, atGo, if_neg (by rw [← HK.out.1]; exact hno)]
          obtain ⟨s0, s1, s2, s3, s4, s5, s6⟩ := cell7 HK.out.2.res
          simp only [Nat.zero_add] at s1 s2 s3 s4 s5 s6
          have z0 := frz HK.out.2.res 0
          have z1 := frz HK.out.2.res 1
          have z2 := frz HK.out.2.res 2
          have z3 := frz HK.out.2.res 3
          have z4 := frz HK.out.2.res 4
          have z5 := frz HK.out.2.res 5
          have z6 := frz HK.out.2.res 6
          by_cases hneg : i < 0
          · have HE := hidM (HZ.out wr 2 (HOut.out (by omega)) HK.out.2.g HK.out.2.res)
            go_wp2
            obtain ⟨w3, hw3, hb3, hq3⟩ := HE.out
            rw [← hw3]
            obtain ⟨v0, v1, v2, v3, v4, v5, v6⟩ := cell7 hb3
            simp only [Nat.zero_add] at v1 v2 v3 v4 v5 v6
            refine bodyPost_ret (v := .tuple #[.agg #[.string ⟨#[]⟩, .bool false, .int .i64 0, .int .i64 0, .int .i64 0, .int .i64 0, .slice none 0 0], .int .i64 2]) ?_ rfl hq3
            simp [results, Tryd.f41, go_sem, v0, v1, v2, v3, v4, v5, v6]
          · by_cases hbig : (n : Int) ≤ i
            · have HE := hidM (HZ.out wr 2 (HOut.out (by omega)) HK.out.2.g HK.out.2.res)
              go_wp2
              obtain ⟨w3, hw3, hb3, hq3⟩ := HE.out
              rw [← hw3]
              obtain ⟨v0, v1, v2, v3, v4, v5, v6⟩ := cell7 hb3
              simp only [Nat.zero_add] at v1 v2 v3 v4 v5 v6
              refine bodyPost_ret (v := .tuple #[.agg #[.string ⟨#[]⟩, .bool false, .int .i64 0, .int .i64 0, .int .i64 0, .int .i64 0, .slice none 0 0], .int .i64 2]) ?_ rfl hq3
              simp [results, Tryd.f41, go_sem, v0, v1, v2, v3, v4, v5, v6]
            · obtain ⟨j, rfl⟩ : ∃ j : Nat, i = (j : Int) := ⟨i.toNat, by omega⟩
              have hjn : j < n := by omega
              have hjl : j < lst.length := by have := HK.out.1; omega
              have hrow := HK.out.2.row
              obtain ⟨d, rfl⟩ : ∃ d, D = d + 1 := by
                cases D with
                | zero => have : lst = [] := hrow; rw [this] at hjl; simp at hjl
                | succ d => exact ⟨d, rfl⟩
              obtain ⟨b', o', rfl, _, hcs⟩ := hrow.2 (fun e => by subst e; simp at hjl)
              obtain ⟨yo, yc, hc, hle', hr'⟩ := hcs j hjl
              obtain ⟨c0, c1, c2, c3, c4, c5, c6⟩ := hc
              obtain ⟨f, hf⟩ : ∃ f, f = lst[j]'hjl := ⟨_, rfl⟩
              rw [← hf] at c0 c1 c2 c3 c4 c5 c6 hle' hr'
              have hjI : (j : Int) < (n : Int) := by omega
              have hyl : f.kids.length ≤ 1000000000000 := hr'.len
              have hbx := HK.out.2.box
              have s7 := set7 (.string f.name) (.bool f.nul) (.int .i64 f.kind) (.int .i64 f.width) (.int .i64 f.id) (.int .i64 f.index) (.slice yo f.kids.length yc) hbx
              have HN := hidM (HK.out.2.keep (f := f) (yo := yo) (yc := yc) HS.out HBF.out.2 HBF.out.1 s7.2 s7.1 hr'.up hle' (by
                have hb : lst[j]! = f := by rw [hf]; exact getElem!_pos lst j hjl
                rw [HDrop.out, atGo, if_pos (by rw [← HK.out.1]; omega)]
                simp [hb]))
              obtain ⟨t0, t1, t2, t3, t4, t5, t6⟩ := cell7 hbx
              simp only [Nat.zero_add] at t1 t2 t3 t4 t5 t6
              have e0 := frz hbx 0
              have e1 := frz hbx 1
              have e2 := frz hbx 2
              have e3 := frz hbx 3
              have e4 := frz hbx 4
              have e5 := frz hbx 5
              have e6 := frz hbx 6
              clear s0 s1 s2 s3 s4 s5 s6 z0 z1 z2 z3 z4 z5 z6 hcs hrow hr' hbx s7 HK hf hneg hbig HOut
              go_wp2
              go_roundw
              case rel => exact ⟨k + 1, _, f, yo, yc, f.kids, yo, yc, by omega, hyl, hle', rfl, by simp, rfl, HN.out⟩
              case measure => simp [intOf]; omega
        · have hkT : k = T := by omega
          subst hkT
          have hcur : R = (0, cur) := by
            refine HRR.out (some cur) ?_
            rw [HK.out.2.rest, List.drop_of_length_le (by have := HTT.out; omega)]
            rfl
          have HC := hidM hcur
          clear hcur
          have hbx := HK.out.2.box
          have hcall : Calls Tryd.prog 67 #[.agg #[.int .i64 cur.kind, .int .i64 cur.width, .int .i64 cur.id, .int .i64 cur.index, .slice xo cur.kids.length xc]] wr fun e w' => ∃ vo vc, e = .returned (.agg #[.int .i64 cur.kind, .int .i64 cur.width, .int .i64 cur.id, .int .i64 cur.index, .slice vo cur.kids.length vc]) ∧ CopQ wr D cur.kids.length cur.kids vo vc w' :=
            copiedType_walk _ _ _ _ xo cur.kids.length xc D cur.kids wr fun W'' g'' => copied_any D S W'' xo xc cur.kids (HK.out.2.krow.kept fun b hb => g''.block b (by have := HS.out b hb; have := HK.out.2.g.size; omega) id) (fun b hb => by have := HS.out b hb; have := HK.out.2.g.size; have := g''.size; omega)
          have HCall := hidM hcall
          obtain ⟨t0, t1, t2, t3, t4, t5, t6⟩ := cell7 hbx
          simp only [Nat.zero_add] at t1 t2 t3 t4 t5 t6
          have HKK := hidM (And.intro HK.out.2.g (And.intro hbx HK.out.2.res))
          clear hbx hcall HK hlt
          go_wp2_with (go_at_call 67; refine Hid.out ?_)
          unfold Hid
          refine Calls.mono HCall.out ?_
          rintro e w2 ⟨yo, yc, rfl, hq⟩
          have hbx := (hq.g.block _ (lt_of_heap HKK.out.2.1) id).trans HKK.out.2.1
          have hrs := (hq.g.block _ (lt_of_heap HKK.out.2.2) id).trans HKK.out.2.2
          have HFl : Hid (F < wr.heap.size ∧ B < wr.heap.size) := ⟨lt_of_heap HKK.out.2.1, lt_of_heap HKK.out.2.2⟩
          obtain ⟨w3, hw3⟩ : ∃ w3, w3 = ((((w2.setCell ⟨F, 2, none⟩ (.int .i64 cur.kind)).setCell ⟨F, 3, none⟩ (.int .i64 cur.width)).setCell ⟨F, 4, none⟩ (.int .i64 cur.id)).setCell ⟨F, 5, none⟩ (.int .i64 cur.index)).setCell ⟨F, 6, none⟩ (.slice yo cur.kids.length yc) := ⟨_, rfl⟩
          have hk3 : Keeps w2 w3 (fun b => b = F) := by rw [hw3]; exact keep1 (keep1 (keep1 (keep1 (keep1 (Keeps.refl w2 _) _) _) _) _) _
          have hb3 : w3.heap[F]? = some (.cells #[.string cur.name, .bool cur.nul, .int .i64 cur.kind, .int .i64 cur.width, .int .i64 cur.id, .int .i64 cur.index, .slice yo cur.kids.length yc] 37) := by
            rw [hw3, setc (j := 6) (setc (j := 5) (setc (j := 4) (setc (j := 3) (setc (j := 2) hbx _) _) _) _) _]; simp
          have hr3 := (hk3.block B (lt_of_heap hrs) (fun e => HBF.out.1 e)).trans hrs
          have s7 := set7 (.string cur.name) (.bool cur.nul) (.int .i64 cur.kind) (.int .i64 cur.width) (.int .i64 cur.id) (.int .i64 cur.index) (.slice yo cur.kids.length yc) hr3
          have HE : Hid (∃ w4, w4 = (((((((w3.setCell ⟨B, 0, none⟩ (.string cur.name)).setCell ⟨B, 1, none⟩ (.bool cur.nul)).setCell ⟨B, 2, none⟩ (.int .i64 cur.kind)).setCell ⟨B, 3, none⟩ (.int .i64 cur.width)).setCell ⟨B, 4, none⟩ (.int .i64 cur.id)).setCell ⟨B, 5, none⟩ (.int .i64 cur.index)).setCell ⟨B, 6, none⟩ (.slice yo cur.kids.length yc)) ∧ w4.heap[B]? = some (.cells #[.string cur.name, .bool cur.nul, .int .i64 cur.kind, .int .i64 cur.width, .int .i64 cur.id, .int .i64 cur.index, .slice yo cur.kids.length yc] 37) ∧ AtQ W D R (.returned (.tuple #[.agg #[.string cur.name, .bool cur.nul, .int .i64 cur.kind, .int .i64 cur.width, .int .i64 cur.id, .int .i64 cur.index, .slice yo cur.kids.length yc], .int .i64 0])) w4) := by
            refine ⟨_, rfl, s7.1, ?_⟩
            rw [HC.out]
            have kall : Keeps w2 _ (fun b => b = F ∨ b = B) := (hk3.mono fun _ _ h => .inl h).trans (s7.2.mono fun _ _ h => Or.inr h) (fun _ _ h => h)
            have hsz := kall.size
            refine ⟨yo, yc, rfl, (HKK.out.1.trans hq.g (fun _ _ h => h)).trans kall (fun j hj e => by have := HBe.out; have := HBF.out.2; omega), hq.le, ?_⟩
            exact (hq.row.kept fun b hb => kall.block b hb.2 (by have := hb.1; have := HFl.out; omega)).mono fun b hb => by have := hb.2; omega
          obtain ⟨t0, t1, t2, t3, t4, t5, t6⟩ := cell7 hbx
          obtain ⟨a0, a1, a2, a3, a4, a5, a6⟩ := cell7 hb3
          obtain ⟨s0, s1, s2, s3, s4, s5, s6⟩ := cell7 hr3
          simp only [Nat.zero_add] at t1 t2 t3 t4 t5 t6 s1 s2 s3 s4 s5 s6 a1 a2 a3 a4 a5 a6
          have y2 := frz hbx 2
          have y3 := frz hbx 3
          have y4 := frz hbx 4
          have y5 := frz hbx 5
          have y6 := frz hbx 6
          have z0 := frz hr3 0
          have z1 := frz hr3 1
          have z2 := frz hr3 2
          have z3 := frz hr3 3
          have z4 := frz hr3 4
          have z5 := frz hr3 5
          have z6 := frz hr3 6
          replace hw3 := hw3.symm
          clear hbx hrs s7 hb3 hr3 hk3 hq HCall
          go_wp2_with fail
          obtain ⟨w4, hw4, hb4, hq4⟩ := HE.out
          try rw [hw3]
          rw [← hw4]
          obtain ⟨v0, v1, v2, v3, v4, v5, v6⟩ := cell7 hb4
          simp only [Nat.zero_add] at v1 v2 v3 v4 v5 v6
          refine bodyPost_ret (v := .tuple #[.agg #[.string cur.name, .bool cur.nul, .int .i64 cur.kind, .int .i64 cur.width, .int .i64 cur.id, .int .i64 cur.index, .slice yo cur.kids.length yc], .int .i64 0]) ?_ rfl hq4
          simp [results, Tryd.f41, go_sem, v0, v1, v2, v3, v4, v5, v6]
  · have hz := beqZ h0
    have HE := hidM (HZ.out W1 5 (by rw [HR.out]; simp [atR, h0]) HY.out.1 HY.out.2.2)
    go_wp2
    obtain ⟨w3, hw3, hb3, hq3⟩ := HE.out
    rw [← hw3]
    obtain ⟨v0, v1, v2, v3, v4, v5, v6⟩ := cell7 hb3
    simp only [Nat.zero_add] at v1 v2 v3 v4 v5 v6
    refine bodyPost_ret (v := .tuple #[.agg #[.string ⟨#[]⟩, .bool false, .int .i64 0, .int .i64 0, .int .i64 0, .int .i64 0, .slice none 0 0], .int .i64 5]) ?_ rfl hq3
    simp [results, Tryd.f41, go_sem, v0, v1, v2, v3, v4, v5, v6]
end Go.Proofs.YtffmppnlddphaaaDoor.Kit
