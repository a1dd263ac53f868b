import Derived.Test.YtdihbfjjddmbiaaGreatDoorYK
import Derived.Test.YtdihbfjjddmbiaaGreatDoorNT
import Derived.Test.YtdihbfjjddmbiaaGreatDoorRU
set_option maxRecDepth 100000
set_option maxHeartbeats 4000000
namespace Go.Proofs.YtdihbfjjddmbiaaGreatDoor.Kit
open Go.RowKit Go.Shelf Go.Deep
set_option linter.unusedVariables false
set_option linter.unusedSimpArgs false
attribute [local go_sem] run_store_func
theorem kept10 {S : Nat → Prop} {D : Nat} {k di rows pr : Int} {dl : Bool} {fo no vo uo fo' no' vo' uo' : Option Addr} {fc nc vc uc fc' nc' vc' uc' : Nat} {fs : List FT} {ns : List (ByteArray × ByteArray)} {nds : List (Int × Int)} {sls : List (Int × Int × Int)} {W : World} (hS : ∀ b, S b → b < W.heap.size) (h1 : WdR S W D fo fc no nc vo vc uo uc fs ns nds sls) (h2 : HeadAt S D W fo' no' vo' uo' fc' fs ns nds sls) :
    Calls Tryz.prog 10 #[.agg #[.int .i64 k, .slice fo fs.length fc, .slice no ns.length nc, .int .i64 di, .bool dl, .int .i64 rows, .int .i64 pr, .slice vo nds.length vc, .slice uo sls.length uc], .agg #[.int .i64 k, .slice fo' fs.length fc', .slice no' ns.length nc', .int .i64 di, .bool dl, .int .i64 rows, .int .i64 pr, .slice vo' nds.length vc', .slice uo' sls.length uc']] W fun e w' => e = .returned (.bool true) ∧ Gr W w' := by
  have bn : ns.length ≤ 1000000000000 := h2.notes.1
  have bd : nds.length ≤ 1000000000000 := h2.nodes.1
  have bs : sls.length ≤ 1000000000000 := h2.slots.1
  have hd1 := h1.head h2.tab h2.d hS h2.notes.1 h2.nodes.1 h2.slots.1
  obtain ⟨ln, gn, rfl, sn, -, mn⟩ := h1.n
  obtain ⟨ld, gd, rfl, sd, -, md⟩ := h1.d
  obtain ⟨ls, gs, rfl, ss, -, ms⟩ := h1.s
  obtain ⟨nf, hnf⟩ : ∃ nf, nf = fs.length := ⟨_, rfl⟩
  obtain ⟨nn, hnn⟩ : ∃ nn, nn = ns.length := ⟨_, rfl⟩
  obtain ⟨nv, hnv⟩ : ∃ nv, nv = nds.length := ⟨_, rfl⟩
  obtain ⟨nu, hnu⟩ : ∃ nu, nu = sls.length := ⟨_, rfl⟩
  obtain ⟨A0, hA0⟩ := ex (W.alloc (.cells #[.int .i64 k, .slice fo nf fc, .slice (some ⟨gn, 0, none⟩) nn nc, .int .i64 di, .bool dl, .int .i64 rows, .int .i64 pr, .slice (some ⟨gd, 0, none⟩) nv vc, .slice (some ⟨gs, 0, none⟩) nu uc] 29))
  have g0 := gr_al hA0
  have b0 : A0.heap[W.heap.size]? = some (.cells #[.int .i64 k, .slice fo nf fc, .slice (some ⟨gn, 0, none⟩) nn nc, .int .i64 di, .bool dl, .int .i64 rows, .int .i64 pr, .slice (some ⟨gd, 0, none⟩) nv vc, .slice (some ⟨gs, 0, none⟩) nu uc] 29 (0, 0)) := by rw [← hA0]; exact heap_alloc_new W _
  obtain ⟨A1, hA1⟩ := ex (A0.alloc (.cells #[.int .i64 k, .slice fo' nf fc', .slice no' nn nc', .int .i64 di, .bool dl, .int .i64 rows, .int .i64 pr, .slice vo' nv vc', .slice uo' nu uc'] 29))
  have g1 := gr_al hA1
  have b1 : A1.heap[A0.heap.size]? = some (.cells #[.int .i64 k, .slice fo' nf fc', .slice no' nn nc', .int .i64 di, .bool dl, .int .i64 rows, .int .i64 pr, .slice vo' nv vc', .slice uo' nu uc'] 29 (0, 0)) := by rw [← hA1]; exact heap_alloc_new A0 _
  have b01 := (g1.block _ (lt_of_heap b0) id).trans b0
  have g01 : Gr W A1 := g0.tr g1
  have HC23 : Hid (∀ u, Gr W u → Calls Tryz.prog 23 #[.agg #[.int .i64 k, .slice fo nf fc, .slice (some ⟨gn, 0, none⟩) nn nc, .int .i64 di, .bool dl, .int .i64 rows, .int .i64 pr, .slice (some ⟨gd, 0, none⟩) nv vc, .slice (some ⟨gs, 0, none⟩) nu uc], .agg #[.int .i64 k, .slice fo' nf fc', .slice no' nn nc', .int .i64 di, .bool dl, .int .i64 rows, .int .i64 pr, .slice vo' nv vc', .slice uo' nu uc']] u fun e w' => e = .returned (.bool true) ∧ Gr u w') := fun u g => by rw [hnf, hnn, hnv, hnu]; exact (same_head hd1 h2) u g
  have HC24 : Hid (∀ u, Gr W u → Calls Tryz.prog 24 #[.slice fo nf fc, .slice fo' nf fc'] u fun e w' => e = .returned (.bool true) ∧ Gr u w') := fun u g => by rw [hnf]; exact kept24 S S W hS h2.s D fs fo fo' fc fc' h1.f h2.row u g
  rw [← hnn] at mn ln
  rw [← hnv] at md ld
  rw [← hnu] at ms ls
  have ln2 : (nn : Int) + 3 ≤ (nc : Int) := by omega
  have ld2 : (nv : Int) + 3 ≤ (vc : Int) := by omega
  have ls2 : (nu : Int) + 3 ≤ (uc : Int) := by omega
  rw [← hnf, ← hnn, ← hnv, ← hnu]
  rw [← hnn] at bn
  rw [← hnv] at bd
  rw [← hnu] at bs
  have HG := hidM g01
  have HB := hidM (And.intro b01 b1)
  have HMN : Hid (∀ u, Gr W u → ∀ i : Nat, i < 3 → u.cell? ⟨gn, (nn + i) * 2, none⟩ = some (.string ⟨#[109]⟩) ∧ u.cell? ⟨gn, (nn + i) * 2 + 1, none⟩ = some (.string ⟨#[109]⟩)) := fun u g i hi => ⟨(g.cell (p := ⟨gn, _, none⟩) (hS gn sn) id).trans (mn i hi 0 (by omega)), (g.cell (p := ⟨gn, _, none⟩) (hS gn sn) id).trans (mn i hi 1 (by omega))⟩
  have HMD : Hid (∀ u, Gr W u → ∀ i : Nat, i < 3 → u.cell? ⟨gd, (nv + i) * 2, none⟩ = some (.int .i64 (-9)) ∧ u.cell? ⟨gd, (nv + i) * 2 + 1, none⟩ = some (.int .i64 (i : Int))) := fun u g i hi => ⟨(g.cell (p := ⟨gd, _, none⟩) (hS gd sd) id).trans (md i hi 0 (by omega)), (g.cell (p := ⟨gd, _, none⟩) (hS gd sd) id).trans (md i hi 1 (by omega))⟩
  have HMS : Hid (∀ u, Gr W u → ∀ i : Nat, i < 3 → u.cell? ⟨gs, (nu + i) * 3, none⟩ = some (.int .i64 (-9)) ∧ u.cell? ⟨gs, (nu + i) * 3 + 1, none⟩ = some (.int .i64 0) ∧ u.cell? ⟨gs, (nu + i) * 3 + 2, none⟩ = some (.int .i64 (i : Int))) := fun u g i hi => ⟨(g.cell (p := ⟨gs, _, none⟩) (hS gs ss) id).trans (ms i hi 0 (by omega)), (g.cell (p := ⟨gs, _, none⟩) (hS gs ss) id).trans (ms i hi 1 (by omega)), (g.cell (p := ⟨gs, _, none⟩) (hS gs ss) id).trans (ms i hi 2 (by omega))⟩
  obtain ⟨-, -, c2, -, -, -, -, c7, c8⟩ := ce9 b01
  clear hnf hnn hnv hnu g0 g1 g01 b0 b1 b01 h1 h2 hd1 mn md ms sn sd ss hS ln ld ls
  go_enter Tryz.func10, Tryz.ntmps10
  go_wp2
  go_loopw [8] (fun p wr => ∃ i : Nat, i ≤ 3 ∧ p = .int .i64 (i : Int) ∧ Hid (Gr A1 wr)) (fun p _ => 3 - (intOf p).toNat)
  case atStart => exact ⟨0, by omega, rfl, Keeps.refl _ _⟩
  case round =>
    obtain ⟨i, hi, rfl, HK⟩ := hrel
    by_cases hlt : i < 3
    · have hltI : (i : Int) < 3 := by omega
      have gW := HG.out.tr HK.out
      obtain ⟨e0, e1⟩ := HMN.out wr gW i hlt
      obtain ⟨V0, hV0⟩ := ex (wr.alloc (.cells #[.string ⟨#[]⟩, .string ⟨#[]⟩] 55))
      have gV0 := gr_al hV0
      have bV0 : V0.heap[wr.heap.size]? = some (.cells #[.string ⟨#[]⟩, .string ⟨#[]⟩] 55 (0, 0)) := by rw [← hV0]; exact heap_alloc_new wr _
      obtain ⟨az0, az1⟩ := fz2 bV0
      obtain ⟨at0, at1⟩ := ce2 bV0
      obtain ⟨V1, hV1⟩ := ex (((V0.setCell ⟨wr.heap.size, 0, none⟩ (.string ⟨#[109]⟩)).setCell ⟨wr.heap.size, 1, none⟩ (.string ⟨#[109]⟩)))
      have kV1 : Keeps V0 V1 (fun z => z = wr.heap.size) := by rw [← hV1]; exact (Keeps.setCell (S := fun z => z = wr.heap.size) (p := ⟨wr.heap.size, 0, none⟩) (Keeps.refl V0 _) (fun _ => rfl) _).setCell (p := ⟨wr.heap.size, 1, none⟩) (fun _ => rfl) _
      have cV1 : V1.heap[wr.heap.size]? = some (.cells #[.string ⟨#[109]⟩, .string ⟨#[109]⟩] 55 (0, 0)) := by
        rw [← hV1]
        have q0 := heap_setCell_same V0 wr.heap.size 0 _ _ (.string ⟨#[109]⟩) bV0
        have q1 := heap_setCell_same (V0.setCell ⟨wr.heap.size, 0, none⟩ (.string ⟨#[109]⟩)) wr.heap.size 1 _ _ (.string ⟨#[109]⟩) q0
        exact q1
      have dV1 : Gr wr V1 := (gV0.mono fun _ _ h => h.elim).trans kV1 (fun j hj h => by omega)
      obtain ⟨e2, e3⟩ := HMD.out V1 (gW.tr dV1) i hlt
      obtain ⟨V2, hV2⟩ := ex (V1.alloc (.cells #[.int .i64 0, .int .i64 0] 44))
      have gV2 := gr_al hV2
      have bV2 : V2.heap[V1.heap.size]? = some (.cells #[.int .i64 0, .int .i64 0] 44 (0, 0)) := by rw [← hV2]; exact heap_alloc_new V1 _
      obtain ⟨bz0, bz1⟩ := fz2 bV2
      obtain ⟨bt0, bt1⟩ := ce2 bV2
      obtain ⟨V3, hV3⟩ := ex (((V2.setCell ⟨V1.heap.size, 0, none⟩ (.int .i64 (-9))).setCell ⟨V1.heap.size, 1, none⟩ (.int .i64 (i : Int))))
      have kV3 : Keeps V2 V3 (fun z => z = V1.heap.size) := by rw [← hV3]; exact (Keeps.setCell (S := fun z => z = V1.heap.size) (p := ⟨V1.heap.size, 0, none⟩) (Keeps.refl V2 _) (fun _ => rfl) _).setCell (p := ⟨V1.heap.size, 1, none⟩) (fun _ => rfl) _
      have cV3 : V3.heap[V1.heap.size]? = some (.cells #[.int .i64 (-9), .int .i64 (i : Int)] 44 (0, 0)) := by
        rw [← hV3]
        have q0 := heap_setCell_same V2 V1.heap.size 0 _ _ (.int .i64 (-9)) bV2
        have q1 := heap_setCell_same (V2.setCell ⟨V1.heap.size, 0, none⟩ (.int .i64 (-9))) V1.heap.size 1 _ _ (.int .i64 (i : Int)) q0
        exact q1
      have dV3 : Gr V1 V3 := (gV2.mono fun _ _ h => h.elim).trans kV3 (fun j hj h => by omega)
      obtain ⟨e4, e5, e6⟩ := HMS.out V3 ((gW.tr dV1).tr dV3) i hlt
      obtain ⟨V4, hV4⟩ := ex (V3.alloc (.cells #[.int .i64 0, .int .i64 0, .int .i64 0] 46))
      have gV4 := gr_al hV4
      have bV4 : V4.heap[V3.heap.size]? = some (.cells #[.int .i64 0, .int .i64 0, .int .i64 0] 46 (0, 0)) := by rw [← hV4]; exact heap_alloc_new V3 _
      obtain ⟨cz0, cz1, cz2⟩ := fz3 bV4
      obtain ⟨ct0, ct1, ct2⟩ := ce3 bV4
      obtain ⟨V5, hV5⟩ := ex ((((V4.setCell ⟨V3.heap.size, 0, none⟩ (.int .i64 (-9))).setCell ⟨V3.heap.size, 1, none⟩ (.int .i64 0)).setCell ⟨V3.heap.size, 2, none⟩ (.int .i64 (i : Int))))
      have kV5 : Keeps V4 V5 (fun z => z = V3.heap.size) := by rw [← hV5]; exact ((Keeps.setCell (S := fun z => z = V3.heap.size) (p := ⟨V3.heap.size, 0, none⟩) (Keeps.refl V4 _) (fun _ => rfl) _).setCell (p := ⟨V3.heap.size, 1, none⟩) (fun _ => rfl) _).setCell (p := ⟨V3.heap.size, 2, none⟩) (fun _ => rfl) _
      have cV5 : V5.heap[V3.heap.size]? = some (.cells #[.int .i64 (-9), .int .i64 0, .int .i64 (i : Int)] 46 (0, 0)) := by
        rw [← hV5]
        have q0 := heap_setCell_same V4 V3.heap.size 0 _ _ (.int .i64 (-9)) bV4
        have q1 := heap_setCell_same (V4.setCell ⟨V3.heap.size, 0, none⟩ (.int .i64 (-9))) V3.heap.size 1 _ _ (.int .i64 0) q0
        have q2 := heap_setCell_same ((V4.setCell ⟨V3.heap.size, 0, none⟩ (.int .i64 (-9))).setCell ⟨V3.heap.size, 1, none⟩ (.int .i64 0)) V3.heap.size 2 _ _ (.int .i64 (i : Int)) q1
        exact q2
      have dV5 : Gr V3 V5 := (gV4.mono fun _ _ h => h.elim).trans kV5 (fun j hj h => by omega)
      have k1 := (dV3.tr dV5).block _ (lt_of_heap cV1) id
      have k3 := dV5.block _ (lt_of_heap cV3) id
      have r0 : V5.cell? ⟨wr.heap.size, 0, none⟩ = some (.string ⟨#[109]⟩) := by simp [World.cell?, k1.trans cV1]
      have r1 : V5.cell? ⟨wr.heap.size, 1, none⟩ = some (.string ⟨#[109]⟩) := by simp [World.cell?, k1.trans cV1]
      have r2 : V5.cell? ⟨V1.heap.size, 0, none⟩ = some (.int .i64 (-9)) := by simp [World.cell?, k3.trans cV3]
      have r3 : V5.cell? ⟨V1.heap.size, 1, none⟩ = some (.int .i64 (i : Int)) := by simp [World.cell?, k3.trans cV3]
      obtain ⟨r4, r5, r6⟩ := ce3 cV5
      have HE : Hid (Gr A1 V5) := HK.out.tr ((dV1.tr dV3).tr dV5)
      clear gW gV0 bV0 kV1 cV1 dV1 gV2 bV2 kV3 cV3 dV3 gV4 bV4 kV5 cV5 dV5 k1 k3
      go_wp2_with fail
      exact ⟨⟨i + 1, by omega, by simp, HE.out⟩, by simp [intOf]; omega⟩
    have hi3 : i = 3 := by omega
    subst hi3
    have hB1 := (HK.out.block _ (lt_of_heap HB.out.1) id).trans HB.out.1
    have hB2 := (HK.out.block _ (lt_of_heap HB.out.2) id).trans HB.out.2
    obtain ⟨p0, p1, p2, p3, p4, p5, p6, p7, p8⟩ := ce9 hB1
    obtain ⟨q0, q1, q2, q3, q4, q5, q6, q7, q8⟩ := ce9 hB2
    have HC1 := hidM (HC23.out wr (HG.out.tr HK.out))
    have HC2 : Hid (∀ w2, Gr wr w2 → (Calls Tryz.prog 24 #[.slice fo nf fc, .slice fo' nf fc'] w2 fun e w' => e = .returned (.bool true) ∧ Gr w2 w') ∧ w2.cell? ⟨W.heap.size, 1, none⟩ = some (.slice fo nf fc) ∧ w2.cell? ⟨A0.heap.size, 1, none⟩ = some (.slice fo' nf fc')) := fun w2 g => ⟨HC24.out w2 ((HG.out.tr HK.out).tr g), g.cell' p1 id, g.cell' q1 id⟩
    clear hB1 hB2
    go_wp2_with (first
      | (go_at_call 23; refine HC1.out.mono ?_; rintro e w2 ⟨rfl, k2⟩; obtain ⟨hc, u1, u2⟩ := HC2.out w2 k2; have HC := hidM hc; have HK2 := hidM k2; clear hc k2 p0 p1 p2 p3 p4 p5 p6 p7 p8 q0 q1 q2 q3 q4 q5 q6 q7 q8)
      | (go_at_call 24; refine HC.out.mono ?_; rintro e w3 ⟨rfl, k3⟩; have HK3 := hidM k3; clear k3))
    go_ret
    exact ⟨rfl, ((HG.out.tr HK.out).tr HK2.out).tr HK3.out⟩
end Go.Proofs.YtdihbfjjddmbiaaGreatDoor.Kit
namespace Go.Proofs.YtdihbfjjddmbiaaGreatDoor.Kit
open Go.RowKit Go.Shelf Go.Deep
set_option linter.unusedVariables false
def Dec {α : Type} (R : List UInt8 → Rd α) (P : α → List UInt8 → Prop) : Prop :=
  ∀ (B : List UInt8) (s : St), s.1 ≤ B.length → (∀ x s', R B s = .ok (x, s') → s'.1 ≤ B.length ∧ ∃ b, B.drop s.1 = b ++ B.drop s'.1 ∧ P x b) ∧ (∀ e, R B s = .error e → e.2 ≤ B.length ∧ (e.1 = 8 ∨ e.1 = 50 ∨ e.1 = 51))
theorem Dec.mono {α : Type} {R : List UInt8 → Rd α} {P Q : α → List UInt8 → Prop} (h : Dec R P) (hPQ : ∀ x b, P x b → Q x b) : Dec R Q := fun B s hs =>
  ⟨fun x s' e => by
    obtain ⟨h1, b, h2, h3⟩ := (h B s hs).1 x s' e
    exact ⟨h1, b, h2, hPQ x b h3⟩, (h B s hs).2⟩
theorem Dec.bind {α β : Type} {R : List UInt8 → Rd α} {f : List UInt8 → α → Rd β} {P : α → List UInt8 → Prop} {Q : α → β → List UInt8 → Prop} (h1 : Dec R P) (h2 : ∀ x, Dec (fun B => f B x) (Q x)) : Dec (fun B => (R B).bind (f B)) (fun y b => ∃ x b1 b2, b = b1 ++ b2 ∧ P x b1 ∧ Q x y b2) := by
  intro B s hs
  cases hr : R B s with
  | error er =>
    have e := Rd.bind_err (f := f B) hr
    refine ⟨fun x s' h => ?_, fun e' h => ?_⟩
    · dsimp only at h; rw [e] at h; cases h
    dsimp only at h; rw [e] at h; cases h; exact (h1 B s hs).2 er hr
  | ok q =>
    obtain ⟨x, t⟩ := q
    have e := Rd.bind_ok (f := f B) hr
    obtain ⟨ht, b1, hb1, hP⟩ := (h1 B s hs).1 x t hr
    refine ⟨fun y s' h => ?_, fun e' h => ?_⟩
    · dsimp only at h
      rw [e] at h
      obtain ⟨h3, b2, hb2, hQ⟩ := (h2 x B t ht).1 y s' h
      exact ⟨h3, b1 ++ b2, by rw [hb1, hb2, List.append_assoc], x, b1, b2, rfl, hP, hQ⟩
    dsimp only at h
    rw [e] at h
    exact (h2 x B t ht).2 e' h
theorem Dec.pure {α : Type} (x : α) : Dec (fun _ => Rd.pure x) (fun y b => y = x ∧ b = []) := fun B s hs => by
  refine ⟨fun y s' h => ?_, fun e h => by cases h⟩
  unfold Rd.pure at h
  cases h
  exact ⟨hs, [], rfl, rfl, rfl⟩
theorem Dec.last {α β : Type} {R : List UInt8 → Rd α} {f : α → β} {P : α → List UInt8 → Prop} (h : Dec R P) : Dec (fun B => (R B).bind fun y => Rd.pure (f y)) (fun y b => ∃ x, y = f x ∧ P x b) :=
  (h.bind (f := fun _ y => Rd.pure (f y)) fun x => Dec.pure (f x)).mono fun y b ⟨x, b1, b2, e, hP, hy, hb⟩ => ⟨x, hy, by rw [e, hb, List.append_nil]; exact hP⟩
theorem numB_cons (b : UInt8) (n : Nat) : ∀ k, numB (b.toNat + 256 * n) (k + 1) = b :: numB n k
  | 0 => by
    have h := b.toNat_lt
    simp only [numB, List.nil_append, Nat.pow_zero, Nat.div_one]
    have : (b.toNat + 256 * n) % 256 = b.toNat := by omega
    rw [this, UInt8.ofNat_toNat]
  | k + 1 => by
    have ih := numB_cons b n k
    have h := b.toNat_lt
    rw [numB, ih, numB]
    have : (b.toNat + 256 * n) / 256 ^ (k + 1) = n / 256 ^ k := by
      rw [Nat.pow_succ', ← Nat.div_div_eq_div_mul]
      congr 1
      omega
    rw [this]
    rfl
theorem numB_leN : ∀ l : List UInt8, numB (leN l) l.length = l
  | [] => rfl
  | b :: l => by rw [leN, List.length_cons, numB_cons, numB_leN l]
theorem drop_split (B : List UInt8) (a k : Nat) : B.drop a = (B.drop a).take k ++ B.drop (a + k) := by
  rw [← List.drop_drop, List.take_append_drop]
theorem dec_num (k : Nat) : Dec (fun B => numR B k) (fun x b => b = numB x k ∧ x < 256 ^ k) := fun B s hs => by
  refine ⟨fun x s' h => ?_, fun e h => ?_⟩ <;> dsimp only at h <;> unfold numR at h <;> by_cases c : s.1 + k ≤ B.length
  · rw [if_pos c] at h
    cases h
    have hl : ((B.drop s.1).take k).length = k := by simp; omega
    refine ⟨c, (B.drop s.1).take k, drop_split B s.1 k, ?_, ?_⟩
    · have := numB_leN ((B.drop s.1).take k)
      rw [hl] at this
      exact this.symm
    have := leN_lt ((B.drop s.1).take k)
    rwa [hl] at this
  · rw [if_neg c] at h; cases h
  · rw [if_pos c] at h; cases h
  rw [if_neg c] at h; cases h; exact ⟨hs, .inr (.inr rfl)⟩
theorem dec_among (lo hi : Nat) : Dec (fun B => amongR B lo hi) (fun x b => b = numB x 1 ∧ x < 256 ∧ lo ≤ x ∧ x ≤ hi) := fun B s hs => by
  have key : amongR B lo hi s = (numR B 1).bind (fun n s' => if n < lo ∨ hi < n then .error (8, s.1) else .ok (n, s')) s := rfl
  cases hr : numR B 1 s with
  | error er =>
    have e := Rd.bind_err (f := fun n s' => if n < lo ∨ hi < n then .error (8, s.1) else .ok (n, s')) hr
    refine ⟨fun x s' h => ?_, fun e' h => ?_⟩
    · dsimp only at h; rw [key, e] at h; cases h
    dsimp only at h; rw [key, e] at h; cases h; exact (dec_num 1 B s hs).2 er hr
  | ok q =>
    obtain ⟨y, t⟩ := q
    have e := Rd.bind_ok (f := fun n s' => if n < lo ∨ hi < n then (.error (8, s.1) : Except (Int × Nat) (Nat × St)) else .ok (n, s')) hr
    obtain ⟨ht, b, hb, hP, hx⟩ := (dec_num 1 B s hs).1 y t hr
    by_cases c : y < lo ∨ hi < y
    · rw [if_pos c] at e
      refine ⟨fun x s' h => ?_, fun e' h => ?_⟩
      · dsimp only at h; rw [key, e] at h; cases h
      dsimp only at h; rw [key, e] at h; cases h; exact ⟨hs, .inl rfl⟩
    rw [if_neg c] at e
    refine ⟨fun x s' h => ?_, fun e' h => ?_⟩
    · dsimp only at h; rw [key, e] at h; cases h; exact ⟨ht, b, hb, hP, by simpa using hx, by omega, by omega⟩
    dsimp only at h; rw [key, e] at h; cases h
theorem dec_flag : Dec flagR (fun x b => b = flgB x) :=
  ((dec_among 0 1).last (f := fun n => n == 1)).mono fun y b ⟨x, hy, hb, _, _, hx⟩ => by
    rw [hb, hy]
    have : x = 0 ∨ x = 1 := by omega
    rcases this with rfl | rfl <;> rfl
theorem dec_bytes (n : Nat) : Dec (fun B => bytesR B n) (fun x b => b = x.data.toList ∧ x.size = n) := fun B s hs => by
  refine ⟨fun x s' h => ?_, fun e h => ?_⟩ <;> dsimp only at h <;> unfold bytesR at h <;> by_cases c : s.1 + n ≤ B.length
  · rw [if_pos c] at h
    cases h
    refine ⟨c, (B.drop s.1).take n, drop_split B s.1 n, rfl, ?_⟩
    show ((B.drop s.1).take n).toArray.size = n
    simp
    omega
  · rw [if_neg c] at h; cases h
  · rw [if_pos c] at h; cases h
  rw [if_neg c] at h; cases h; exact ⟨hs, .inr (.inr rfl)⟩
theorem dec_text (k : Nat) : Dec (fun B => textR B k) (fun x b => b = txtB x k) :=
  ((dec_num k).bind (f := bytesR) dec_bytes).mono fun y b ⟨n, b1, b2, e, h1, h2⟩ => by
    rw [e, h1.1, h2.1, ← h2.2]; rfl
theorem dec_node : Dec nodeR (fun x b => b = ndM x) :=
  ((dec_num 4).bind (f := fun B (x : Nat) => (numR B 4).bind fun y => Rd.pure ((x : Int), (y : Int))) fun x => (dec_num 4).last (f := fun y : Nat => ((x : Int), (y : Int)))).mono fun y b ⟨x, b1, b2, e, h1, z, hy, h2⟩ => by
    rw [e, h1.1, h2.1, hy]; rfl
theorem dec_slot : Dec slotR (fun x b => b = slM x) :=
  ((dec_num 4).bind (f := fun B (x : Nat) => (numR B 4).bind fun y => (numR B 4).bind fun z => Rd.pure ((x : Int), (y : Int), (z : Int))) fun x =>
    (dec_num 4).bind (f := fun B (y : Nat) => (numR B 4).bind fun z => Rd.pure ((x : Int), (y : Int), (z : Int))) fun y => (dec_num 4).last (f := fun z : Nat => ((x : Int), (y : Int), (z : Int)))).mono fun y b ⟨x, b1, b2, e, h1, z, b3, b4, e2, h2, u, hy, h3⟩ => by
    rw [e, e2, h1.1, h2.1, h3.1, hy, ← List.append_assoc]; rfl
theorem dec_note : Dec noteR (fun x b => b = ntM x) :=
  ((dec_text 2).bind (f := fun B x => (textR B 2).bind fun y => Rd.pure (x, y)) fun x => (dec_text 2).last (f := fun y => (x, y))).mono fun y b ⟨x, b1, b2, e, h1, z, hy, h2⟩ => by
    rw [e, h1, h2, hy]; rfl
theorem dec_sevK {α : Type} {R : List UInt8 → Rd α} {P : α → List UInt8 → Prop} {enc : α → List UInt8} {Q : α → Prop} (h : Dec R P) (hP : ∀ x b, P x b → b = enc x ∧ Q x) : ∀ (n : Nat) (acc : List α), Dec (fun B => sevK (R B) n acc) (fun l b => ∃ l', l = acc ++ l' ∧ l'.length = n ∧ b = l'.flatMap enc ∧ ∀ x ∈ l', Q x)
  | 0, acc => (Dec.pure acc).mono fun l b ⟨hl, hb⟩ => ⟨[], by rw [hl, List.append_nil], rfl, hb, fun x hx => by cases hx⟩
  | n + 1, acc => (h.bind (f := fun B x => sevK (R B) n (acc ++ [x])) fun x => dec_sevK h hP n (acc ++ [x])).mono fun l b ⟨x, b1, b2, e, h1, l', hl, hn, hb, hq⟩ => by
    obtain ⟨g1, g2⟩ := hP x b1 h1
    refine ⟨x :: l', by rw [hl]; simp, by simp [hn], by rw [e, g1, hb]; rfl, fun y hy => ?_⟩
    rcases List.mem_cons.1 hy with rfl | hy
    · exact g2
    exact hq y hy
theorem dec_sev {α : Type} {R : List UInt8 → Rd α} {P : α → List UInt8 → Prop} {enc : α → List UInt8} {Q : α → Prop} (h : Dec R P) (hP : ∀ x b, P x b → b = enc x ∧ Q x) (n : Nat) : Dec (fun B => sevR n (R B)) (fun l b => l.length = n ∧ b = l.flatMap enc ∧ ∀ x ∈ l, Q x) :=
  (dec_sevK h hP n []).mono fun l b ⟨l', e, hn, hb, hq⟩ => by
    rw [List.nil_append] at e
    subst e
    exact ⟨hn, hb, hq⟩
end Go.Proofs.YtdihbfjjddmbiaaGreatDoor.Kit
