import Derived.Test.YtegjpmodleigeaaGreatDoorWN
import Derived.LoopN
set_option maxRecDepth 100000
set_option maxHeartbeats 4000000
namespace Go.Proofs.YtegjpmodleigeaaGreatDoor.Kit
open Go.RowKit Go.Shelf Go.Deep
open Go.Proofs.YtegjpmodleigeaaGreatDoor.Kd (Ans AnsV cell5 cell2)
set_option linter.unusedVariables false
set_option linter.unusedSimpArgs false
attribute [local go_sem] run_store_func
attribute [local go_sem] Oper.semAt_some
/-- the blocks of joined's list; of its yield; of its first round -/
def Sj (jb pb : Nat) (b : Nat) : Prop := b = jb ∨ b = pb
def Pz (z : Nat) (b : Nat) : Prop := b = z
def Py (z y : Nat) (b : Nat) : Prop := b = z ∨ b = y ∨ b = y + 1 ∨ b = y + 2
theorem seq21 (n jb pb pcc c0 c1 : Nat) (hn : 1 ≤ n) (encs : Nat → Array Value) (hc0 : encs 0 = #[.agg #[.slice (some ⟨c0, 0, none⟩) 1 1, .int .i64 0]]) (hc1 : encs 1 = #[.agg #[.slice (some ⟨c1, 0, none⟩) 1 1, .int .i64 0]]) (w : World) (hjb : w.heap[jb]? = some (.cells #[.slice (some ⟨pb, 0, none⟩) 2 pcc] 48)) (hpb : w.heap[pb]? = some (.cells #[.int .i64 1, .slice (some ⟨c0, 0, none⟩) 1 1, .int .i64 1, .slice (some ⟨c1, 0, none⟩) 1 1] 59)) (hpc : 2 ≤ pcc) :
    SeqNew n Tryz.prog 21 #[.pointer (some ⟨jb, 0, none⟩)] encs (AtT 2) (Sj jb pb) (fun xs => xs = List.range 2) (fun _ => True) w := by
  intro l J Jx W hW hJ hL hY h0
  have hjW := (hW.block _ (lt_of_heap hjb) id).trans hjb
  have hpW := (hW.block _ (lt_of_heap hpb) id).trans hpb
  obtain ⟨z, hz⟩ : ∃ z, W.heap.size = z := ⟨_, rfl⟩
  obtain ⟨V0, hV0⟩ : ∃ V, W.alloc (.cells #[.func (.yield l) #[] #[]] 72) = V := ⟨_, rfl⟩
  have gV : Gr W V0 := by rw [← hV0]; exact gr_alloc W _
  have sV : V0.heap.size = z + 1 := by rw [← hV0, ← hz]; simp
  have bV : V0.heap[z]? = some (.cells #[.func (.yield l) #[] #[]] 72) := by rw [← hV0, ← hz]; exact heap_alloc_new W _
  have HSt0 : Hid (V0.heap[z]? = some (.cells #[.func (.yield l) #[] #[]] 72) ∧ V0.heap[pb]? = some (.cells #[.int .i64 1, .slice (some ⟨c0, 0, none⟩) 1 1, .int .i64 1, .slice (some ⟨c1, 0, none⟩) 1 1] 59) ∧ (∀ b cs ty fz, Pz z b → V0.heap[b]? = some (.cells cs ty fz) → ty = 59 ∨ ty = 72 ∨ ty = 69) ∧ (∀ b, (Sj jb pb b ∨ Pz z b) → b < V0.heap.size) ∧ J (Pz z) (List.range 0) V0) := by
    have l1 := lt_of_heap hjW
    have l2 := lt_of_heap hpW
    refine ⟨bV, (gV.block _ (lt_of_heap hpW) id).trans hpW, ?_, ?_, hJ _ _ _ _ _ h0 (gV.mono fun _ _ h => h.elim) (fun b hb => ?_)⟩
    · intro b cs ty fz hb e
      have hb' : b = z := hb
      rw [hb', bV] at e; cases e; simp
    · intro b hb
      rcases hb with (hb | hb) | hb
      · omega
      · omega
      · have e : b = z := hb
        omega
    · have e : b = z := hb
      exact ⟨by omega, .inr (by omega)⟩
  have cj := cell1 ((gV.block _ (lt_of_heap hjW) id).trans hjW)
  have cW := cell1 hjW
  have HJ := hidM hJ
  have HLx := hidM hL
  have HY := hidM hY
  have h2c : (2 : Int) ≤ (pcc : Int) := by omega
  clear hW hJ hL hY h0 hjb hpb hjW hpW gV bV sV
  refine callsIn_of_wp_marks Tryz.func21 rfl trivial ?_ rfl
  simp only [Tryz.ntmps21, List.size_toArray, List.length_cons, List.length_nil, Nat.reduceAdd, Nat.reduceSub, Array.replicate_succ, Array.replicate_zero, List.push_toArray, List.append_toArray, List.nil_append, List.cons_append]
  refine wpIn_wide.2 ?_
  go_wp2_with fail
  clear hV0 cj cW
  refine wp_loop_rounds 3 ?_
  have HSt := HSt0
  obtain ⟨hz0, hp0, hPt0, hPl0, hJ0⟩ := HSt.out
  obtain ⟨X0, hX0⟩ : ∃ X, V0.alloc (.cells #[.int .i64 1, .slice (some ⟨c0, 0, none⟩) 1 1] 59) = X := ⟨_, rfl⟩
  obtain ⟨y0, hy0⟩ : ∃ y, V0.heap.size = y := ⟨_, rfl⟩
  have gX0 : Gr V0 X0 := by rw [← hX0]; exact gr_alloc V0 _
  have sX0 : X0.heap.size = y0 + 1 := by rw [← hX0, ← hy0]; simp
  have bX0 : X0.heap[y0]? = some (.cells #[.int .i64 1, .slice (some ⟨c0, 0, none⟩) 1 1] 59) := by rw [← hX0, ← hy0]; exact heap_alloc_new V0 _
  obtain ⟨Z0, hZ0⟩ : ∃ Z, X0.alloc (.cells #[.int .i64 1, .slice (some ⟨c0, 0, none⟩) 1 1] 59) = Z := ⟨_, rfl⟩
  have gZ0 : Gr X0 Z0 := by rw [← hZ0]; exact gr_alloc X0 _
  have sZ0 : Z0.heap.size = y0 + 2 := by rw [← hZ0]; simp [sX0]
  have bZ0 : Z0.heap[y0 + 1]? = some (.cells #[.int .i64 1, .slice (some ⟨c0, 0, none⟩) 1 1] 59) := by rw [← hZ0, ← sX0]; exact heap_alloc_new X0 _
  have gVZ0 : Gr V0 Z0 := gX0.trans gZ0 (fun _ _ h => h)
  have bY0 := (gZ0.block _ (lt_of_heap bX0) id).trans bX0
  have HA0 : Hid (Calls Tryz.prog 15 #[.agg #[.int .i64 1, .slice (some ⟨c0, 0, none⟩) 1 1]] X0 fun e w' => e = .returned (.func (.func 24) #[] #[.pointer (some ⟨y0 + 1, 0, none⟩)]) ∧ w' = Z0) := by
    have h := all15 1 c0 1 X0
    rw [sX0] at h
    rw [← hZ0]
    exact h
  have HSeq0 := hidM (seq24 (n - 1) (y0 + 1) 1 c0 1 Z0 bZ0 (by decide))
  have HLow0 : Hid (∀ b, (Sj jb pb b ∨ (Pz z) b) → b < y0) := fun b hb => by rw [← hy0]; exact hPl0 b hb
  have HPt0 : Hid (∀ b cs ty fz, (Pz z) b → Z0.heap[b]? = some (.cells cs ty fz) → ty = 59 ∨ ty = 72 ∨ ty = 69) := fun b cs ty fz hb e => hPt0 b cs ty fz hb ((gVZ0.block b (hPl0 b (.inr hb)) id).symm.trans e)
  have HYt0 : Hid (∀ b cs ty fz, (b = y0 ∨ b = y0 + 1) → Z0.heap[b]? = some (.cells cs ty fz) → ty = 59 ∨ ty = 72 ∨ ty = 69) := fun b cs ty fz hb e => by
    rcases hb with rfl | rfl
    · rw [bY0] at e; cases e; simp
    · rw [bZ0] at e; cases e; simp
  have hzZ0 := (gVZ0.block _ (lt_of_heap hz0) id).trans hz0
  have HI00 : Hid (∀ V, Keeps Z0 V (fun _ => False) → V.heap.size = Z0.heap.size + 2 → SI (Sj jb pb) (Pz z) Z0 y0 J 0 (fun _ => False) [] V) := fun V k hs => by
    refine ⟨fun _ h => h.elim, by omega, fun b hb => k.block b ?_ id, ?_⟩
    · rcases hb with hb | hb | hb | hb
      · have := HLow0.out b (.inl hb); omega
      · have := HLow0.out b (.inr hb); omega
      · omega
      · omega
    · refine HJ.out _ _ _ _ _ hJ0 ((gVZ0.trans k (fun _ _ h => h)).mono fun _ _ h => h.elim) (fun b hb => ?_)
      rcases hb with hb | hb | hb
      · exact hb.elim
      · exact ⟨by have := HLow0.out b (.inr hb); omega, .inl hb⟩
      · exact ⟨by omega, .inr (by omega)⟩
  obtain ⟨d0, d1, d2, d3⟩ := cell4 hp0
  obtain ⟨e0, e1⟩ := cell2 bX0
  have HP0 := hidM (And.intro hp0 (And.intro hzZ0 (And.intro sZ0 gVZ0)))
  clear HSt hz0 hp0 hPt0 hPl0 hJ0 gX0 bX0 gZ0 bZ0 gVZ0 bY0 hzZ0 hZ0 sX0 sZ0
  refine Eq.mpr (rounds_succ (n := 2)) ?_
  go_wp2_with (go_at_call 15; refine HA0.out.mono ?_; rintro e w' ⟨rfl, rfl⟩)
  clear d0 d1 d2 d3 e0 e1 hX0 hy0 HA0 HSt0
  obtain ⟨hp0, hzZ0, sZ0, gVZ0⟩ := HP0.out
  refine (wpIn_wide (n := n)).1 ?_
  refine rangeY hn (gf := 24) (lb := #[.pointer (some ⟨y0 + 1, 0, none⟩)]) rfl (enters_of Tryz.func24 (by kernel_rfl) rfl) HSeq0.out (fun _ => rfl) (fun b h => by have h' : b = y0 + 1 := h; omega)
    (fun O pre x A B h hA hO k => ⟨h.1, h.2.1, fun b cs ty fz ho e => h.2.2 b cs ty fz ho (((k.block b (hO b ho).2 (fun e => by have e' : b = _ + 1 := e; have := (hO b ho).1; omega)).symm).trans e)⟩)
    (SI (Sj jb pb) (Pz z) w' y0 J 0) (fun O O' pre A B h hA hO k hO' => h.step HJ.out HLow0.out k (fun b hb => .inl hb) hO')
    (fun O pre A B h k => h.step HJ.out HLow0.out k (fun b hb => by rcases hb with e | e; exact .inr (.inl (by omega)); exact .inr (.inr (by omega))) (fun b hb => ⟨Nat.lt_of_lt_of_le (h.o b hb).2 k.size, .inl hb⟩))
    (fun O c pre V => c = .ret ∧ SX (Sj jb pb) (Pz z) w' y0 Jx 0 O V) (fun O c pre A B ⟨e, h⟩ k => ⟨e, h.step HLx.out HLow0.out k (fun b hb => by rcases hb with e | e | e; exact .inl e; exact .inr (.inl (by omega)); exact .inr (.inr (by omega)))⟩)
    HI00.out
    (fun x a' V => ∃ Bx, V.heap[Bx]? = some (.cells #[.slice (some ⟨c0, 0, none⟩) 1 1, .int .i64 (x : Nat)] 69) ∧ y0 + 4 ≤ Bx ∧ a' = { tmps := #[.func (.yield l) #[] #[], .pointer (some ⟨jb, 0, none⟩), .pointer (some ⟨z, 0, none⟩), undef, .pointer (some ⟨y0, 0, none⟩), .pointer (some ⟨Bx, 0, none⟩), .slice (some ⟨pb, 0, none⟩) 2 pcc, .int .i64 2, .int .i64 0, .bool true, .pointer (some ⟨pb, 0, none⟩), .agg #[.int .i64 1, .slice (some ⟨c0, 0, none⟩) 1 1], .agg #[.int .i64 1, .slice (some ⟨c0, 0, none⟩) 1 1], .func (.func 24) #[] #[.pointer (some ⟨y0 + 1, 0, none⟩)], .agg #[.slice (some ⟨c0, 0, none⟩) 1 1, .int .i64 (x : Nat)], undef, undef, undef, undef, undef], defers := [] })
    (fun x a' A B h hk => by
      obtain ⟨Bx, h1, h2, h3⟩ := h
      exact ⟨Bx, (hk.block Bx (lt_of_heap h1) (fun e => by have e' : Bx = _ + 1 := e; omega)).trans h1, h2, h3⟩)
    ?assign0 ?body0 ?done0 ?stop0
  case assign0 =>
    intro l' x V K hz hK
    unfold encR
    have hy4 : y0 + 4 ≤ V.heap.size := by omega
    clear sZ0 gVZ0 hp0 hzZ0 hz
    gi_wp2
    refine hK _ _ (gr_alloc V _) ⟨V.heap.size, heap_alloc_new V _, hy4, rfl⟩
  case body0 =>
    rintro ll O pre x a' V hi ⟨hpr, hx1, hOt⟩ ⟨Bx, hbx, hBx, rfl⟩ hO hsz hd hl
    obtain rfl : x = 0 := by omega
    obtain rfl : pre = [] := hpr
    have e2 : w'.heap.size = y0 + 2 := sZ0
    rw [e2] at hd hl
    obtain ⟨b0, b1⟩ := cell2 hbx
    have hzV := cell1 ((hi.fx z (.inr (.inl rfl))).trans hzZ0)
    obtain ⟨fn, tm, asn, bdy, hyy, hR⟩ := join_yield (m := n - 1 - 1 - 1) (ll := ll) HLow0.out (by decide) HPt0.out HYt0.out HY.out hi hOt hd hl
    rw [hc0] at hyy
    clear hi hbx hd hl hOt hO hsz hBx sZ0 gVZ0 hp0 hzZ0
    gi_wp2_with (refine ⟨fun h => (by cases h), hR.mono ?_⟩; refine Hid.out ?_)
    unfold Hid
    rintro e W3 ⟨r, rfl, HN⟩
    cases r
    · have hA := hidM (And.intro HN.1 (HN.2.2 rfl))
      clear HN b0 b1 hzV hyy hR
      gi_wp2
      first
        | exact ⟨hA.out.1, rfl, hA.out.2⟩
        | (rw [e2]; exact ⟨hA.out.1, rfl, hA.out.2⟩)
    · have hA := hidM (And.intro HN.1 (HN.2.1 rfl))
      clear HN b0 b1 hzV hyy hR
      gi_wp2
      first
        | exact ⟨hA.out.1, hA.out.2⟩
        | (rw [e2]; exact ⟨hA.out.1, hA.out.2⟩)
  case stop0 =>
    rintro O c pre V hp ⟨rfl, hx⟩ hzV hd
    have e2 : w'.heap.size = y0 + 2 := sZ0
    have HFin : Hid (∃ O' pre', Jx O' pre' (V.putObj w'.heap.size (.deferred none))) := ⟨_, _, (hx.step HLx.out HLow0.out (keeps_put V _ (.deferred none)) (fun b hb => .inr (.inl (by omega)))).j⟩
    clear hx hp sZ0 gVZ0 hp0 hzZ0 e2
    gi_wp2
    refine ⟨by simp, .inl ⟨_, _, rfl, run_takeDeferred hd, ?_⟩⟩
    refine ⟨.tuple #[], ?_, ⟨_, rfl⟩, .inr (HFin.out.imp fun _ h => h.imp fun _ h => ⟨trivial, h⟩)⟩
    simp [results, Tryz.f21, go_sem]
  case done0 =>
    rintro O xs V1 rfl hi hsV hd
    have e2 : w'.heap.size = y0 + 2 := sZ0
    rw [e2] at hd
    have HSt1 : Hid (V1.heap[z]? = some (.cells #[.func (.yield l) #[] #[]] 72) ∧ V1.heap[pb]? = some (.cells #[.int .i64 1, .slice (some ⟨c0, 0, none⟩) 1 1, .int .i64 1, .slice (some ⟨c1, 0, none⟩) 1 1] 59) ∧ (∀ b cs ty fz, Py z y0 b → V1.heap[b]? = some (.cells cs ty fz) → ty = 59 ∨ ty = 72 ∨ ty = 69) ∧ (∀ b, (Sj jb pb b ∨ Py z y0 b) → b < V1.heap.size) ∧ J (Py z y0) (List.range 1) V1) := by
      have lz := HLow0.out z (.inr rfl)
      refine ⟨(hi.fx z (.inr (.inl rfl))).trans hzZ0, ?_, ?_, ?_, ?_⟩
      · exact (hi.fx pb (.inl (.inr rfl))).trans ((gVZ0.block _ (lt_of_heap hp0) id).trans hp0)
      · intro b cs ty fz hb e
        rcases hb with rfl | hb | hb | hb
        · exact HPt0.out _ cs ty fz rfl ((hi.fx _ (.inr (.inl rfl))).symm.trans e)
        · exact HYt0.out b cs ty fz (.inl hb) ((hi.fx b (.inr (.inr (.inl hb)))).symm.trans e)
        · exact HYt0.out b cs ty fz (.inr hb) ((hi.fx b (.inr (.inr (.inr hb)))).symm.trans e)
        · rw [hb, hd] at e; cases e
      · intro b hb
        have := hi.sz
        rcases hb with hb | hb | hb | hb | hb
        · have := HLow0.out b (.inl hb); omega
        · omega
        · omega
        · omega
        · omega
      · refine HJ.out _ _ _ _ _ hi.j (Keeps.refl V1 _) (fun b hb => ?_)
        have := hi.sz
        rcases hb with hb | hb | hb | hb
        · exact ⟨by omega, .inl (.inr (.inl hb))⟩
        · exact ⟨by omega, .inl (.inr (.inr (.inl hb)))⟩
        · exact ⟨by omega, .inl (.inr (.inr (.inr (.inl hb))))⟩
        · exact ⟨by omega, .inl (.inr (.inr (.inr (.inr (.inl hb)))))⟩
    have HD0 : Hid (V1.heap[y0 + 2]? = some (.deferred (some []))) := hd
    have E0 := hidM e2
    clear hi hsV hd sZ0 gVZ0 hp0 hzZ0 HPt0 HYt0 HSeq0 HI00
    rw [e2]
    clear e2
    go_wp2_with fail
    have HSt := HSt1
    obtain ⟨hz1, hp1, hPt1, hPl1, hJ1⟩ := HSt.out
    obtain ⟨X1, hX1⟩ : ∃ X, V1.alloc (.cells #[.int .i64 1, .slice (some ⟨c1, 0, none⟩) 1 1] 59) = X := ⟨_, rfl⟩
    obtain ⟨y1, hy1⟩ : ∃ y, V1.heap.size = y := ⟨_, rfl⟩
    have gX1 : Gr V1 X1 := by rw [← hX1]; exact gr_alloc V1 _
    have sX1 : X1.heap.size = y1 + 1 := by rw [← hX1, ← hy1]; simp
    have bX1 : X1.heap[y1]? = some (.cells #[.int .i64 1, .slice (some ⟨c1, 0, none⟩) 1 1] 59) := by rw [← hX1, ← hy1]; exact heap_alloc_new V1 _
    obtain ⟨Z1, hZ1⟩ : ∃ Z, X1.alloc (.cells #[.int .i64 1, .slice (some ⟨c1, 0, none⟩) 1 1] 59) = Z := ⟨_, rfl⟩
    have gZ1 : Gr X1 Z1 := by rw [← hZ1]; exact gr_alloc X1 _
    have sZ1 : Z1.heap.size = y1 + 2 := by rw [← hZ1]; simp [sX1]
    have bZ1 : Z1.heap[y1 + 1]? = some (.cells #[.int .i64 1, .slice (some ⟨c1, 0, none⟩) 1 1] 59) := by rw [← hZ1, ← sX1]; exact heap_alloc_new X1 _
    have gVZ1 : Gr V1 Z1 := gX1.trans gZ1 (fun _ _ h => h)
    have bY1 := (gZ1.block _ (lt_of_heap bX1) id).trans bX1
    have HA1 : Hid (Calls Tryz.prog 15 #[.agg #[.int .i64 1, .slice (some ⟨c1, 0, none⟩) 1 1]] X1 fun e w' => e = .returned (.func (.func 24) #[] #[.pointer (some ⟨y1 + 1, 0, none⟩)]) ∧ w' = Z1) := by
      have h := all15 1 c1 1 X1
      rw [sX1] at h
      rw [← hZ1]
      exact h
    have HSeq1 := hidM (seq24 (n - 1) (y1 + 1) 1 c1 1 Z1 bZ1 (by decide))
    have HLow1 : Hid (∀ b, (Sj jb pb b ∨ (Py z y0) b) → b < y1) := fun b hb => by rw [← hy1]; exact hPl1 b hb
    have HPt1 : Hid (∀ b cs ty fz, (Py z y0) b → Z1.heap[b]? = some (.cells cs ty fz) → ty = 59 ∨ ty = 72 ∨ ty = 69) := fun b cs ty fz hb e => hPt1 b cs ty fz hb ((gVZ1.block b (hPl1 b (.inr hb)) id).symm.trans e)
    have HYt1 : Hid (∀ b cs ty fz, (b = y1 ∨ b = y1 + 1) → Z1.heap[b]? = some (.cells cs ty fz) → ty = 59 ∨ ty = 72 ∨ ty = 69) := fun b cs ty fz hb e => by
      rcases hb with rfl | rfl
      · rw [bY1] at e; cases e; simp
      · rw [bZ1] at e; cases e; simp
    have hzZ1 := (gVZ1.block _ (lt_of_heap hz1) id).trans hz1
    have HI01 : Hid (∀ V, Keeps Z1 V (fun _ => False) → V.heap.size = Z1.heap.size + 2 → SI (Sj jb pb) (Py z y0) Z1 y1 J 1 (fun _ => False) [] V) := fun V k hs => by
      refine ⟨fun _ h => h.elim, by omega, fun b hb => k.block b ?_ id, ?_⟩
      · rcases hb with hb | hb | hb | hb
        · have := HLow1.out b (.inl hb); omega
        · have := HLow1.out b (.inr hb); omega
        · omega
        · omega
      · refine HJ.out _ _ _ _ _ hJ1 ((gVZ1.trans k (fun _ _ h => h)).mono fun _ _ h => h.elim) (fun b hb => ?_)
        rcases hb with hb | hb | hb
        · exact hb.elim
        · exact ⟨by have := HLow1.out b (.inr hb); omega, .inl hb⟩
        · exact ⟨by omega, .inr (by omega)⟩
    obtain ⟨d0, d1, d2, d3⟩ := cell4 hp1
    obtain ⟨e0, e1⟩ := cell2 bX1
    have HP1 := hidM (And.intro hp1 (And.intro hzZ1 (And.intro sZ1 gVZ1)))
    clear HSt hz1 hp1 hPt1 hPl1 hJ1 gX1 bX1 gZ1 bZ1 gVZ1 bY1 hzZ1 hZ1 sX1 sZ1
    refine Eq.mpr (rounds_succ (n := 1)) ?_
    go_wp2_with (go_at_call 15; refine HA1.out.mono ?_; rintro e w' ⟨rfl, rfl⟩)
    clear d0 d1 d2 d3 e0 e1 hX1 hy1 HA1 HSt1
    obtain ⟨hp1, hzZ1, sZ1, gVZ1⟩ := HP1.out
    refine (wpIn_wide (n := n)).1 ?_
    refine rangeY hn (gf := 24) (lb := #[.pointer (some ⟨y1 + 1, 0, none⟩)]) rfl (enters_of Tryz.func24 (by kernel_rfl) rfl) HSeq1.out (fun _ => rfl) (fun b h => by have h' : b = y1 + 1 := h; omega)
      (fun O pre x A B h hA hO k => ⟨h.1, h.2.1, fun b cs ty fz ho e => h.2.2 b cs ty fz ho (((k.block b (hO b ho).2 (fun e => by have e' : b = _ + 1 := e; have := (hO b ho).1; omega)).symm).trans e)⟩)
      (SI (Sj jb pb) (Py z y0) w' y1 J 1) (fun O O' pre A B h hA hO k hO' => h.step HJ.out HLow1.out k (fun b hb => .inl hb) hO')
      (fun O pre A B h k => h.step HJ.out HLow1.out k (fun b hb => by rcases hb with e | e; exact .inr (.inl (by omega)); exact .inr (.inr (by omega))) (fun b hb => ⟨Nat.lt_of_lt_of_le (h.o b hb).2 k.size, .inl hb⟩))
      (fun O c pre V => c = .ret ∧ SX (Sj jb pb) (Py z y0) w' y1 Jx 1 O V) (fun O c pre A B ⟨e, h⟩ k => ⟨e, h.step HLx.out HLow1.out k (fun b hb => by rcases hb with e | e | e; exact .inl e; exact .inr (.inl (by omega)); exact .inr (.inr (by omega)))⟩)
      HI01.out
      (fun x a' V => ∃ Bx, V.heap[Bx]? = some (.cells #[.slice (some ⟨c1, 0, none⟩) 1 1, .int .i64 (x : Nat)] 69) ∧ y1 + 4 ≤ Bx ∧ a' = { tmps := #[.func (.yield l) #[] #[], .pointer (some ⟨jb, 0, none⟩), .pointer (some ⟨z, 0, none⟩), undef, .pointer (some ⟨y1, 0, none⟩), .pointer (some ⟨Bx, 0, none⟩), .slice (some ⟨pb, 0, none⟩) 2 pcc, .int .i64 2, .int .i64 1, .bool true, .pointer (some ⟨pb, 2, none⟩), .agg #[.int .i64 1, .slice (some ⟨c1, 0, none⟩) 1 1], .agg #[.int .i64 1, .slice (some ⟨c1, 0, none⟩) 1 1], .func (.func 24) #[] #[.pointer (some ⟨y1 + 1, 0, none⟩)], .agg #[.slice (some ⟨c1, 0, none⟩) 1 1, .int .i64 (x : Nat)], undef, undef, undef, undef, .int .i64 1], defers := [] })
      (fun x a' A B h hk => by
        obtain ⟨Bx, h1, h2, h3⟩ := h
        exact ⟨Bx, (hk.block Bx (lt_of_heap h1) (fun e => by have e' : Bx = _ + 1 := e; omega)).trans h1, h2, h3⟩)
      ?assign1 ?body1 ?done1 ?stop1
    case assign1 =>
      intro l' x V K hz hK
      unfold encR
      have hy4 : y1 + 4 ≤ V.heap.size := by omega
      clear sZ1 gVZ1 hp1 hzZ1 hz
      gi_wp2
      refine hK _ _ (gr_alloc V _) ⟨V.heap.size, heap_alloc_new V _, hy4, rfl⟩
    case body1 =>
      rintro ll O pre x a' V hi ⟨hpr, hx1, hOt⟩ ⟨Bx, hbx, hBx, rfl⟩ hO hsz hd hl
      obtain rfl : x = 0 := by omega
      obtain rfl : pre = [] := hpr
      have e2 : w'.heap.size = y1 + 2 := sZ1
      rw [e2] at hd hl
      obtain ⟨b0, b1⟩ := cell2 hbx
      have hzV := cell1 ((hi.fx z (.inr (.inl (.inl rfl)))).trans hzZ1)
      obtain ⟨fn, tm, asn, bdy, hyy, hR⟩ := join_yield (m := n - 1 - 1 - 1) (ll := ll) HLow1.out (by decide) HPt1.out HYt1.out HY.out hi hOt hd hl
      rw [hc1] at hyy
      clear hi hbx hd hl hOt hO hsz hBx sZ1 gVZ1 hp1 hzZ1
      gi_wp2_with (refine ⟨fun h => (by cases h), hR.mono ?_⟩; refine Hid.out ?_)
      unfold Hid
      rintro e W3 ⟨r, rfl, HN⟩
      cases r
      · have hA := hidM (And.intro HN.1 (HN.2.2 rfl))
        clear HN b0 b1 hzV hyy hR
        gi_wp2
        first
          | exact ⟨hA.out.1, rfl, hA.out.2⟩
          | (rw [e2]; exact ⟨hA.out.1, rfl, hA.out.2⟩)
      · have hA := hidM (And.intro HN.1 (HN.2.1 rfl))
        clear HN b0 b1 hzV hyy hR
        gi_wp2
        first
          | exact ⟨hA.out.1, hA.out.2⟩
          | (rw [e2]; exact ⟨hA.out.1, hA.out.2⟩)
    case stop1 =>
      rintro O c pre V hp ⟨rfl, hx⟩ hzV hd
      have e2 : w'.heap.size = y1 + 2 := sZ1
      have ly : y0 + 2 < y1 := HLow1.out _ (.inr (.inr (.inr (.inr rfl))))
      have hd1 : (V.putObj w'.heap.size (.deferred none)).heap[y0 + 2]? = some (.deferred (some [])) := (World.putObj_heap_other (by omega)).trans ((hx.fx _ (.inr (.inl (.inr (.inr (.inr rfl)))))).trans ((gVZ1.block _ (by have := lt_of_heap HD0.out; omega) id).trans HD0.out))
      have HFin : Hid (∃ O' pre', Jx O' pre' ((V.putObj w'.heap.size (.deferred none)).putObj (y0 + 2) (.deferred none))) := by
        have h1 := hx.step HLx.out HLow1.out (keeps_put V w'.heap.size (.deferred none)) (fun b hb => .inr (.inl (by omega)))
        exact ⟨_, _, HLx.out _ _ _ _ h1.j ((keeps_put _ (y0 + 2) (.deferred none)).mono fun b _ e => .inr (.inl (.inr (.inr (.inr e)))))⟩
      have HD1 := hidM hd1
      clear hx hp sZ1 gVZ1 hp1 hzZ1 e2 ly hd1
      gi_wp2
      refine ⟨by simp, .inl ⟨_, _, rfl, run_takeDeferred hd, ?_⟩⟩
      refine ⟨by simp, .inl ⟨_, _, rfl, run_takeDeferred HD1.out, ?_⟩⟩
      refine ⟨.tuple #[], ?_, ⟨_, rfl⟩, .inr (HFin.out.imp fun _ h => h.imp fun _ h => ⟨trivial, h⟩)⟩
      simp [results, Tryz.f21, go_sem]
    case done1 =>
      rintro O xs V rfl hi hsV hd
      have e2 : w'.heap.size = y1 + 2 := sZ1
      have ly : y0 + 2 < y1 := HLow1.out _ (.inr (.inr (.inr (.inr rfl))))
      have hd1 : (V.putObj w'.heap.size (.deferred none)).heap[y0 + 2]? = some (.deferred (some [])) := (World.putObj_heap_other (by omega)).trans ((hi.fx _ (.inr (.inl (.inr (.inr (.inr rfl)))))).trans ((gVZ1.block _ (by have := lt_of_heap HD0.out; omega) id).trans HD0.out))
      have HFin : Hid (∃ O', J O' [0, 1] ((V.putObj w'.heap.size (.deferred none)).putObj (y0 + 2) (.deferred none))) := by
        have h1 := hi.step HJ.out HLow1.out (O' := O) (keeps_put V w'.heap.size (.deferred none)) (fun b hb => .inr (.inl (by omega))) (fun b hb => ⟨by simpa using (hi.o b hb).2, .inl hb⟩)
        have hs := h1.sz
        refine ⟨Py z y0, HJ.out _ _ _ _ _ h1.j ((keeps_put _ (y0 + 2) (.deferred none)).mono fun b _ e => .inr (.inl (.inr (.inr (.inr e))))) (fun b hb => ⟨?_, .inl (.inr (.inl hb))⟩)⟩
        have := HLow1.out b (.inr hb)
        simp at hs ⊢
        omega
      have HD1 := hidM hd1
      clear hi hsV sZ1 gVZ1 hp1 hzZ1 e2 ly hd1
      go_wp2_with fail
      refine Eq.mpr (rounds_succ (n := 0)) ?_
      go_wp2_with fail
      refine ⟨by simp, .inl ⟨_, _, rfl, run_takeDeferred hd, ?_⟩⟩
      refine ⟨by simp, .inl ⟨_, _, rfl, run_takeDeferred HD1.out, ?_⟩⟩
      refine ⟨.tuple #[], ?_, ⟨_, rfl⟩, .inl ?_⟩
      · simp [results, Tryz.f21, go_sem]
      · obtain ⟨O', h⟩ := HFin.out
        exact ⟨O', _, rfl, h⟩
end Go.Proofs.YtegjpmodleigeaaGreatDoor.Kit
namespace Go.Proofs.YtegjpmodleigeaaGreatDoor.Kit
open Go.RowKit Go.Shelf Go.Deep
open Go.Proofs.YtegjpmodleigeaaGreatDoor.Kd (Ans AnsV cell5 cell2)
set_option linter.unusedVariables false
set_option linter.unusedSimpArgs false
attribute [local go_sem] run_store_func
attribute [local go_sem] Oper.semAt_some
/-- the blocks that pieces and its piles have, by their types -/
def IsR (B : Nat) (W : World) (b : Nat) : Prop := B ≤ b ∧ ∃ cs ty fz, W.heap[b]? = some (.cells cs ty fz) ∧ (ty = 78 ∨ ty = 121 ∨ ty = 151 ∨ ty = 262 ∨ ty = 4 ∨ ty = 2 ∨ ty = 117 ∨ ty = 82 ∨ ty = 66 ∨ ty = 39 ∨ ty = 43 ∨ ty = 23 ∨ ty = 3 ∨ ty = 33)
def FrR (B : Nat) (w W : World) : Prop := Keeps w W (IsR B w)
theorem IsR.lt {B : Nat} {W : World} {b : Nat} (h : IsR B W b) : b < W.heap.size := by
  obtain ⟨_, cs, ty, fz, e, _⟩ := h
  exact lt_of_heap e
theorem IsQ.r {B : Nat} {W : World} {b : Nat} (h : IsQ B W b) : IsR B W b := by
  obtain ⟨h1, cs, ty, fz, e, ht⟩ := h
  refine ⟨h1, cs, ty, fz, e, ?_⟩
  rcases ht with h | h | h | h | h | h | h | h | h <;> simp [h]
theorem FrR.trans {B : Nat} {u v w : World} (h : FrR B u v) (g : FrR B v w) : FrR B u w := by
  refine Keeps.trans h g (fun k hk ⟨hl, cs, ty, fz, e, ht⟩ => ?_)
  by_cases hi : IsR B u k
  · exact hi
  · exact ⟨hl, cs, ty, fz, (h.block k hk hi) ▸ e, ht⟩
theorem Gr.frR {B : Nat} {w W : World} (g : Gr w W) : FrR B w W := g.mono (fun _ _ h => h.elim)
theorem FrP.r {B : Nat} {w W : World} (g : FrP B w W) : FrR B w W := g.mono (fun k _ h => (IsP.q h).r)
theorem Pil.low' {B B' : Nat} {W : World} {pl pc p n m t : Nat} {nu : Bool} {fo : Option Addr} {fc : Nat} {xs : List Int} (h : Pil B W pl pc p n m t nu fo fc xs) (hB : B' ≤ B) : Pil B' W pl pc p n m t nu fo fc xs := by
  obtain ⟨vo, vc, lo, lc, hn⟩ := h.nd
  have l1 := h.low
  have l2 := hn.low
  exact ⟨h.hl, h.hc, h.hp, ⟨vo, vc, lo, lc, hn.hn, hn.hm, hn.ht, hn.rv, hn.rl, ⟨by omega, by omega, by omega⟩, fun g e => by have := hn.bv g e; omega, fun g e => by have := hn.bl g e; omega⟩, by omega, by omega, by omega⟩
/-- the list of the batches that were made -/
def LsR (W : World) (z : Nat) (lo : Option Addr) (k lc : Nat) : Prop := ∃ xs : List Value, W.ownsRow 0 43 2 (.slice lo k lc) k xs ∧ (∀ g, (Value.slice lo k lc).ownBlock = some g → z ≤ g) ∧ ∀ i, i < k → xs[2 * i]? = some (.int .i64 1)
/-- where pieces stands behind k rows -/
structure PcS (z q fb fcc : Nat) (W : World) (k : Nat) : Prop where
  fz : W.heap[z]? = some (.cells #[.slice (some ⟨fb, 0, none⟩) 1 fcc] 23)
  nz : W.heap[z + 1]? = some (.cells #[.int .i64 1] 3)
  rz : W.heap[z + 2]? = some (.cells #[.slice none 0 0] 39)
  ez : W.heap[z + 3]? = some (.cells #[.int .i64 0] 33)
  ls : ∃ lo lc, W.heap[z + 4]? = some (.cells #[.slice lo k lc] 39) ∧ LsR W z lo k lc
  pl : ∃ pl pc p n m t fo fc, W.heap[q]? = some (.cells #[.pointer (some ⟨pl, 0, none⟩)] 66) ∧ Pil z W pl pc p n m t false fo fc []
  lq : z + 5 ≤ q
theorem LsR.kp {W V : World} {z : Nat} {lo : Option Addr} {k lc : Nat} (h : LsR W z lo k lc) (hk : ∀ b, IsR z W b → V.heap[b]? = W.heap[b]?) : LsR V z lo k lc := by
  obtain ⟨xs, h1, h2, h3⟩ := h
  refine ⟨xs, row_kp h1 fun g e => hk g ?_, h2, h3⟩
  refine ⟨h2 g e, ?_⟩
  rcases h1.2 with ⟨e0, _⟩ | ⟨b, cap, cur, e0, _, hg, _⟩
  · rw [e0] at e; simp [Value.ownBlock] at e
  · rw [e0] at e
    have : b = g := by simpa [Value.ownBlock] using e
    subst this
    exact ⟨_, 43, _, hg, by simp⟩
theorem PcS.kp {z q fb fcc k : Nat} {W V : World} (h : PcS z q fb fcc W k) (hk : ∀ b, IsR z W b → V.heap[b]? = W.heap[b]?) : PcS z q fb fcc V k := by
  obtain ⟨lo, lc, hb, hl⟩ := h.ls
  obtain ⟨pl, pc, p, n, m, t, fo, fc, hq, hp⟩ := h.pl
  have lq := h.lq
  exact ⟨(hk _ ⟨by omega, _, _, _, h.fz, by simp⟩).trans h.fz, (hk _ ⟨by omega, _, _, _, h.nz, by simp⟩).trans h.nz, (hk _ ⟨by omega, _, _, _, h.rz, by simp⟩).trans h.rz, (hk _ ⟨by omega, _, _, _, h.ez, by simp⟩).trans h.ez, ⟨lo, lc, (hk _ ⟨by omega, _, _, _, hb, by simp⟩).trans hb, hl.kp hk⟩, ⟨pl, pc, p, n, m, t, fo, fc, (hk _ ⟨by omega, _, _, _, hq, by simp⟩).trans hq, hp.kp fun b hb => hk b hb.r⟩, h.lq⟩
/-- while rows are laid in pieces -/
def PcI (w0 : World) (z q fb fcc s : Nat) (O : Nat → Prop) (pre : List Nat) (W : World) : Prop :=
  Gr w0 W ∧ ∃ W0, W0.heap.size ≤ W.heap.size ∧ PcS z q fb fcc W0 pre.length ∧ ∀ b, IsR z W0 b → W.heap[b]? = W0.heap[b]? ∧ ¬ O b ∧ b ≠ s ∧ b ≠ s + 1
theorem PcI.step {w0 : World} {z q fb fcc s : Nat} {O O' : Nat → Prop} {pre : List Nat} {A B : World} {T : Nat → Prop} (h : PcI w0 z q fb fcc s O pre A) (k : Keeps A B T) (hT : ∀ b, T b → w0.heap.size ≤ b) (hT2 : ∀ b, T b → O b ∨ b = s ∨ b = s + 1) (hO' : ∀ b, O' b → O b ∨ A.heap.size ≤ b) : PcI w0 z q fb fcc s O' pre B := by
  obtain ⟨g, W0, hs, hp, hk⟩ := h
  refine ⟨g.trans k (fun j hj e => by have := hT j e; omega), W0, Nat.le_trans hs k.size, hp, fun b hb => ?_⟩
  have hlt := hb.lt
  obtain ⟨e, ne, n1, n2⟩ := hk b hb
  refine ⟨(k.block b (by omega) (fun e => (hT2 b e).elim ne (fun e => e.elim n1 n2))).trans e, fun ho => ?_, n1, n2⟩
  rcases hO' b ho with h | h
  · exact ne h
  · omega
theorem PcI.st {w0 : World} {z q fb fcc s : Nat} {O : Nat → Prop} {pre : List Nat} {A : World} (h : PcI w0 z q fb fcc s O pre A) : PcS z q fb fcc A pre.length := by
  obtain ⟨g, W0, hs, hp, hk⟩ := h
  exact hp.kp fun b hb => (hk b hb).1
theorem PcI.next {w0 V w' : World} {z q fb fcc s : Nat} {O S : Nat → Prop} {pre : List Nat} {x : Nat} (h : PcI w0 z q fb fcc s O pre V) (hz : z = w0.heap.size) (hf : FrR z V w') (hp : PcS z q fb fcc w' (pre.length + 1)) (hOt : ∀ b cs ty fz, O b → V.heap[b]? = some (.cells cs ty fz) → ty = 59 ∨ ty = 72 ∨ ty = 69) (hd : V.heap[s]? = some (.deferred (some []))) (hl : ∃ lp, V.heap[s + 1]? = some (.loop lp)) (hS : ∀ b, S b → b < w0.heap.size) (hO : ∀ b, O b → b < V.heap.size) (hs : s + 2 ≤ V.heap.size) : Left S O s V w' ∧ PcI w0 z q fb fcc s O (pre ++ [x]) w' := by
  obtain ⟨lp, hl⟩ := hl
  have l0 := h.1.size
  have kO : ∀ b, O b → w'.heap[b]? = V.heap[b]? := fun b hb => hf.block b (hO b hb) (fun q => by
    obtain ⟨_, cs, ty, fz, e, ht⟩ := q
    rcases hOt b cs ty fz hb e with rfl | rfl | rfl <;> simp at ht)
  have ks : w'.heap[s]? = V.heap[s]? := hf.block s (by omega) (fun q => by
    obtain ⟨_, cs, ty, fz, e, ht⟩ := q
    rw [hd] at e
    cases e)
  have ks1 : w'.heap[s + 1]? = V.heap[s + 1]? := hf.block (s + 1) (by omega) (fun q => by
    obtain ⟨_, cs, ty, fz, e, ht⟩ := q
    rw [hl] at e
    cases e)
  refine ⟨⟨fun b hb => ?_, hf.size⟩, ?_⟩
  · rcases hb with hb | hb | rfl | rfl
    · exact hf.block b (by have := hS b hb; omega) (fun q => by have := hS b hb; have := q.1; omega)
    · exact kO b hb
    · exact ks
    · exact ks1
  · refine ⟨h.1.trans hf (fun k hk q => by have := q.1; omega), w', Nat.le_refl _, by simpa using hp, fun b hb => ⟨rfl, fun ho => ?_, fun e => ?_, fun e => ?_⟩⟩
    · obtain ⟨_, cs, ty, fz, e, ht⟩ := hb
      rw [kO b ho] at e
      rcases hOt b cs ty fz ho e with rfl | rfl | rfl <;> simp at ht
    · subst e
      obtain ⟨_, cs, ty, fz, e, ht⟩ := hb
      rw [ks, hd] at e
      cases e
    · subst e
      obtain ⟨_, cs, ty, fz, e, ht⟩ := hb
      rw [ks1, hl] at e
      cases e
theorem info43 : (Tryz.prog.info? 43).map (fun i => (i.zero, i.size, i.bytes)) = some (some (.agg #[.int .i64 0, .slice none 0 0]), 2, 32) := by kernel_rfl
theorem src43 (w : World) (u v : Value) (hu : u.oneCell' = true) (hv : v.oneCell' = true) : Src Tryz.prog 2 39 (.slice (some ⟨w.heap.size, 0, none⟩) 1 1) 1 [u, v] (w.alloc (.cells #[u, v] 43)) := by
  have h := heap_alloc_new w (.cells #[u, v] 43)
  refine Src.ofSlice (w := w.alloc (.cells #[u, v] 43)) Tryz.underlying39 ⟨w.heap.size, 0, none⟩ 1 1 [u, v] rfl (fun j x hj => ?_) (fun x hx => by simp at hx; rcases hx with rfl | rfl <;> assumption)
  match j with
  | 0 => cases hj; show (w.alloc (.cells #[u, v] 43)).cell? ⟨w.heap.size, 0, none⟩ = some u; unfold World.cell?; rw [h]; rfl
  | 1 => cases hj; show (w.alloc (.cells #[u, v] 43)).cell? ⟨w.heap.size, 0 + 1, none⟩ = some v; unfold World.cell?; rw [h]; rfl
  | j + 2 => simp at hj
end Go.Proofs.YtegjpmodleigeaaGreatDoor.Kit
