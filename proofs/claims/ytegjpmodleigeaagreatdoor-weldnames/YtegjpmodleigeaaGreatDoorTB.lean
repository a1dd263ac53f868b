import Derived.Test.YtegjpmodleigeaaGreatDoorTA
set_option maxRecDepth 100000
set_option maxHeartbeats 4000000
namespace Go.Proofs.YtegjpmodleigeaaGreatDoor.Kit
open Go.RowKit Go.Shelf Go.Deep
open Go.Proofs.YtegjpmodleigeaaGreatDoor.Kd (Ans AnsV cell5 cell2)
set_option linter.unusedVariables false
set_option linter.unusedSimpArgs false
attribute [local go_sem] run_store_func
theorem info1 : (Tryz.prog.info? 1).map (fun i => (i.zero, i.size, i.bytes)) = some (some .nilFunc, 1, 8) := by kernel_rfl
theorem method_keep (m : Nat) (w : World) : (method 510 215 (.pointer (some ⟨m, 0, none⟩)) "colonnade/build.keep").run Tryz.prog w = .ok (272, .pointer (some ⟨m, 0, none⟩)) w := by kernel_rfl
theorem src_two (w : World) (u v : Value) (hu : u.oneCell' = true) (hv : v.oneCell' = true) : Src Tryz.prog 1 115 (.slice (some ⟨w.heap.size, 0, none⟩) 2 2) 2 [u, v] (w.alloc (.cells #[u, v] 1)) := by
  have h := heap_alloc_new w (.cells #[u, v] 1)
  refine Src.ofSlice (w := w.alloc (.cells #[u, v] 1)) Tryz.underlying115 ⟨w.heap.size, 0, none⟩ 2 2 [u, v] rfl (fun j x hj => ?_) (fun x hx => by simp at hx; rcases hx with rfl | rfl <;> assumption)
  match j with
  | 0 => cases hj; show (w.alloc (.cells #[u, v] 1)).cell? ⟨w.heap.size, 0, none⟩ = some u; unfold World.cell?; rw [h]; rfl
  | 1 => cases hj; show (w.alloc (.cells #[u, v] 1)).cell? ⟨w.heap.size, 0 + 1, none⟩ = some v; unfold World.cell?; rw [h]; rfl
  | j + 2 => simp at hj
def nodC (nu : Bool) (m t : Nat) (s : Int) (vo : Option Addr) (L vc : Nat) (wt : Int) : Array Value := #[.bool nu, .iface 215 (.pointer (some ⟨m, 0, none⟩)), .pointer (some ⟨t, 0, none⟩), .int .i64 s, .slice vo L vc, .int .i64 wt]
theorem enter115 (n m t : Nat) (nu : Bool) (wd s k : Int) (vo : Option Addr) (L vc : Nat) (wt : Int) (lo : Option Addr) (M lc : Nat) (W : World) (h : W.heap[n]? = some (.cells #[.bool nu, .iface 215 (.pointer (some ⟨m, 0, none⟩)), .pointer (some ⟨t, 0, none⟩), .int .i64 s, .slice vo L vc, .int .i64 wt] 151)) (hm : W.heap[m]? = some (.cells #[.int .i64 wd, .slice lo M lc] 262)) (ht : W.heap[t]? = some (.cells #[.int .i64 k, .slice none 0 0] 117)) (hne : s ≠ k) :
    Calls Tryz.prog 115 #[.pointer (some ⟨t, 0, none⟩), .pointer (some ⟨n, 0, none⟩)] W fun e w' => e = .returned (.tuple #[]) ∧ Keeps W w' (fun z => z = n ∨ z = t) ∧ w'.heap[n]? = some (.cells #[.bool nu, .iface 215 (.pointer (some ⟨m, 0, none⟩)), .pointer (some ⟨t, 0, none⟩), .int .i64 k, .slice vo L vc, .int .i64 wt] 151) ∧ ∃ st, w'.heap[t]? = some (.cells #[.int .i64 k, st] 117) := by
  obtain ⟨c0, c1, c2, c3, c4, c5⟩ := cell6' h
  obtain ⟨t0, t1⟩ := cell2 ht
  have hsk : (s == k) = false := by simp [hne]
  have hnt : n ≠ t := fun e => by subst e; rw [h] at ht; simp at ht
  have hnm : m ≠ n := fun e => by subst e; rw [h] at hm; simp at hm
  have z3 := frz (W := W.drew) (show W.drew.heap[n]? = _ from h) 3
  obtain ⟨V, hV⟩ : ∃ V, W.drew.setCell ⟨n, 3, none⟩ (.int .i64 k) = V := ⟨_, rfl⟩
  have kV : Keeps W V (fun z => z = n) := by rw [← hV]; exact (gr_drew.mono (fun _ _ h => h.elim)).trans (Keeps.setCell (S := fun z => z = n) (p := ⟨n, 3, none⟩) (Keeps.refl W.drew _) (fun _ => rfl) _) (fun _ _ h => h)
  have hnV : V.heap[n]? = some (.cells #[.bool nu, .iface 215 (.pointer (some ⟨m, 0, none⟩)), .pointer (some ⟨t, 0, none⟩), .int .i64 k, .slice vo L vc, .int .i64 wt] 151) := by rw [← hV, heap_setCell_same W.drew n 3 _ _ _ (show W.drew.heap[n]? = _ from h)]; rfl
  have htV := (kV.block t (lt_of_heap ht) (fun e => hnt e.symm)).trans ht
  have hmV := (kV.block m (lt_of_heap hm) hnm).trans hm
  have HN : Hid (∀ u, Gr V u → u.heap[n]? = some (.cells #[.bool nu, .iface 215 (.pointer (some ⟨m, 0, none⟩)), .pointer (some ⟨t, 0, none⟩), .int .i64 k, .slice vo L vc, .int .i64 wt] 151)) := fun u g => (g.block _ (lt_of_heap hnV) id).trans hnV
  have HM : Hid (∀ u, Gr V u → u.heap[m]? = some (.cells #[.int .i64 wd, .slice lo M lc] 262)) := fun u g => (g.block _ (lt_of_heap hmV) id).trans hmV
  have HTT : Hid (∀ u, Gr V u → u.heap[t]? = some (.cells #[.int .i64 k, .slice none 0 0] 117)) := fun u g => (g.block _ (lt_of_heap htV) id).trans htV
  have HT : Hid (∀ u, Gr V u → u.cell? ⟨t, 1, none⟩ = some (.slice none 0 0)) := fun u g => (cell2 (HTT.out u g)).2
  have HI : Hid (∀ u, Gr V u → u.cell? ⟨n, 1, none⟩ = some (.iface 215 (.pointer (some ⟨m, 0, none⟩)))) := fun u g => (cell6' (HN.out u g)).2.1
  have HE : Hid (∀ u st, Gr V u → Keeps W (u.setCell ⟨t, 1, none⟩ st) (fun z => z = n ∨ z = t) ∧ (u.setCell ⟨t, 1, none⟩ st).heap[n]? = some (.cells #[.bool nu, .iface 215 (.pointer (some ⟨m, 0, none⟩)), .pointer (some ⟨t, 0, none⟩), .int .i64 k, .slice vo L vc, .int .i64 wt] 151) ∧ (u.setCell ⟨t, 1, none⟩ st).heap[t]? = some (.cells #[.int .i64 k, st] 117) ∧ (u.setCell ⟨t, 1, none⟩ st).cell? ⟨n, 1, none⟩ = some (.iface 215 (.pointer (some ⟨m, 0, none⟩)))) := fun u st g => by
    have ks : Keeps u (u.setCell ⟨t, 1, none⟩ st) (fun z => z = t) := Keeps.setCell (S := fun z => z = t) (p := ⟨t, 1, none⟩) (Keeps.refl u _) (fun _ => rfl) _
    have hn' := (ks.block n (lt_of_heap (HN.out u g)) hnt).trans (HN.out u g)
    refine ⟨((kV.mono (fun _ _ h => Or.inl h)).trans (g.mono (fun _ _ h => h.elim)) (fun _ _ h => h)).trans (ks.mono (fun _ _ h => Or.inr h)) (fun _ _ h => h), hn', ?_, (cell6' hn').2.1⟩
    rw [heap_setCell_same u t 1 _ _ _ (HTT.out u g)]; rfl
  have HG : Hid (Gr V V.drew) := gr_drew
  have hmeth := method_keep m
  clear h hm ht hne hnt hnm kV hnV htV hmV
  go_enter Tryz.func115, Tryz.ntmps115
  go_wp2
  go_region
  go_wp2_with fail
  clear c0 c1 c2 c3 c4 c5 t0 t1 z3 hV hsk
  refine wp_region_held_drew (S := fun w' => w'.cell? ⟨n, 1, none⟩ = some (.iface 215 (.pointer (some ⟨m, 0, none⟩)))) (by kernel_rfl) (HI.out _ HG.out) (fun hHeld => ?_)
  refine wpAnyH_take (i := 0) (oi := { dst := some 20, op := Op.move (Operand.tmp 0), type := 114, pos := "trail.go:18", after := #[], guard := none }) (v := ?v0a1) rfl (by kernel_rfl) (by kernel_rfl) (by kernel_rfl) (fun _ _ _ h => h) (Or.inl ⟨by rfl, ?y0a1⟩) (by assumption) ?r0a1
  case y0a1 => (intro w hSw; go_simp; (try with_reducible rfl))
  (try simp only [Act.put]); (try simp only [List.setIfInBounds_toArray]); (try simp only [List.set_cons_succ]); (try simp only [List.set_cons_zero])
  refine wpAnyH_take (i := 1) (oi := { dst := some 21, op := Op.move (Operand.tmp 0), type := 114, pos := "trail.go:18", after := #[], guard := none }) (v := ?v1a2) rfl (by kernel_rfl) (by kernel_rfl) (by kernel_rfl) (fun _ _ _ h => h) (Or.inl ⟨by rfl, ?y1a2⟩) (by assumption) ?r1a2
  case y1a2 => (intro w hSw; go_simp; (try with_reducible rfl))
  (try simp only [Act.put]); (try simp only [List.setIfInBounds_toArray]); (try simp only [List.set_cons_succ]); (try simp only [List.set_cons_zero])
  refine wpAnyH_take (i := 2) (oi := { dst := some 22, op := Op.nilCheck (Operand.tmp 21), type := 0, pos := "trail.go:18", after := #[{ on := 1, ground := Ground.data }], guard := none }) (v := ?v2a3) rfl (by kernel_rfl) (by kernel_rfl) (by kernel_rfl) (fun _ _ _ h => h) (Or.inl ⟨by rfl, ?y2a3⟩) (by assumption) ?r2a3
  case y2a3 => (intro w hSw; go_simp; (try with_reducible rfl))
  (try simp only [Act.put]); (try simp only [List.setIfInBounds_toArray]); (try simp only [List.set_cons_succ]); (try simp only [List.set_cons_zero])
  refine wpAnyH_take (i := 3) (oi := { dst := some 23, op := Op.fieldAddr 117 (Operand.tmp 22) 1, type := 0, pos := "trail.go:18", after := #[{ on := 2, ground := Ground.data }], guard := none }) (v := ?v3a4) rfl (by kernel_rfl) (by kernel_rfl) (by kernel_rfl) (fun _ _ _ h => h) (Or.inl ⟨by rfl, ?y3a4⟩) (by assumption) ?r3a4
  case y3a4 => (intro w hSw; go_simp; (try with_reducible rfl))
  (try simp only [Act.put]); (try simp only [List.setIfInBounds_toArray]); (try simp only [List.set_cons_succ]); (try simp only [List.set_cons_zero])
  refine wpAnyH_take (i := 5) (oi := { dst := some 25, op := Op.move (Operand.tmp 1), type := 118, pos := "trail.go:18", after := #[], guard := none }) (v := ?v5a5) rfl (by kernel_rfl) (by kernel_rfl) (by kernel_rfl) (fun _ _ _ h => h) (Or.inl ⟨by rfl, ?y5a5⟩) (by assumption) ?r5a5
  case y5a5 => (intro w hSw; go_simp; (try with_reducible rfl))
  (try simp only [Act.put]); (try simp only [List.setIfInBounds_toArray]); (try simp only [List.set_cons_succ]); (try simp only [List.set_cons_zero])
  refine wpAnyH_take (i := 7) (oi := { dst := some 27, op := Op.move (Operand.tmp 1), type := 118, pos := "trail.go:18", after := #[], guard := none }) (v := ?v7a6) rfl (by kernel_rfl) (by kernel_rfl) (by kernel_rfl) (fun _ _ _ h => h) (Or.inl ⟨by rfl, ?y7a6⟩) (by assumption) ?r7a6
  case y7a6 => (intro w hSw; go_simp; (try with_reducible rfl))
  (try simp only [Act.put]); (try simp only [List.setIfInBounds_toArray]); (try simp only [List.set_cons_succ]); (try simp only [List.set_cons_zero])
  refine wpAnyH_take (i := 8) (oi := { dst := some 28, op := Op.nilCheck (Operand.tmp 27), type := 0, pos := "trail.go:18", after := #[{ on := 7, ground := Ground.data }], guard := none }) (v := ?v8a7) rfl (by kernel_rfl) (by kernel_rfl) (by kernel_rfl) (fun _ _ _ h => h) (Or.inl ⟨by rfl, ?y8a7⟩) (by assumption) ?r8a7
  case y8a7 => (intro w hSw; go_simp; (try with_reducible rfl))
  (try simp only [Act.put]); (try simp only [List.setIfInBounds_toArray]); (try simp only [List.set_cons_succ]); (try simp only [List.set_cons_zero])
  refine wpAnyH_take (i := 9) (oi := { dst := some 29, op := Op.fieldAddr 151 (Operand.tmp 28) 1, type := 0, pos := "trail.go:18", after := #[{ on := 8, ground := Ground.data }], guard := none }) (v := ?v9a8) rfl (by kernel_rfl) (by kernel_rfl) (by kernel_rfl) (fun _ _ _ h => h) (Or.inl ⟨by rfl, ?y9a8⟩) (by assumption) ?r9a8
  case y9a8 => (intro w hSw; go_simp; (try with_reducible rfl))
  (try simp only [Act.put]); (try simp only [List.setIfInBounds_toArray]); (try simp only [List.set_cons_succ]); (try simp only [List.set_cons_zero])
  refine wpAnyH_take (i := 10) (oi := { dst := some 30, op := Op.load 147 (Operand.tmp 29), type := 147, pos := "trail.go:18", after := #[{ on := 9, ground := Ground.data }], guard := none }) (v := ?v10x) rfl (by kernel_rfl) (by kernel_rfl) (by kernel_rfl) (fun _ _ _ h => h) (Or.inl ⟨by rfl, ?y10x⟩) (by assumption) ?r10x
  case y10x => (intro w hSw; go_simp; (try with_reducible rfl))
  (try simp only [Act.put]); (try simp only [List.setIfInBounds_toArray]); (try simp only [List.set_cons_succ]); (try simp only [List.set_cons_zero])
  refine wpAnyH_ready (rs := [4, 6]) (by kernel_rfl) (by simp) ?_
  refine (AllReadyH.cons (o := { dst := some 24, op := Op.load 115 (Operand.tmp 23), type := 115, pos := "trail.go:18", after := #[{ on := 3, ground := Ground.data }], guard := none }) rfl (fun Kc hK => ?_) (AllReadyH.cons (o := { dst := some 26, op := Op.call { callee := Callee.value (Operand.func 131), args := #[Operand.tmp 25], argTypes := #[118] }, type := 1, pos := "trail.go:18", after := #[{ on := 5, ground := Ground.data }], guard := none }) rfl (fun Kc hK => ?_) AllReadyH.nil))
  · have tc := HT.out _ HG.out
    go_simp
    refine hK.out _ _ (hHeld) (fun hHeld => ?_)
    clear hK Kc tc
    (try simp only [Act.put]); (try simp only [List.setIfInBounds_toArray]); (try simp only [List.set_cons_succ]); (try simp only [List.set_cons_zero])
    refine wpAnyH_ready (rs := [6]) (by kernel_rfl) (by simp) ?_
    refine (AllReadyH.cons (o := { dst := some 26, op := Op.call { callee := Callee.value (Operand.func 131), args := #[Operand.tmp 25], argTypes := #[118] }, type := 1, pos := "trail.go:18", after := #[{ on := 5, ground := Ground.data }], guard := none }) rfl (fun Kc hK => ?_) AllReadyH.nil)
    go_simp
    go_at_call 131
    refine Calls.mono (kept131 n nu m t k vo L vc wt _ (HN.out _ HG.out)) ?_
    rintro e' w1 ⟨⟨fa, fb, rfl⟩, g1⟩
    replace HG := hidM (HG.out.trans g1 (fun _ _ h => h))
    clear g1
    go_wp2_with fail
    refine hK.out _ _ ((HI.out _ HG.out)) (fun hHeld => ?_)
    clear hK Kc
    (try simp only [Act.put]); (try simp only [List.setIfInBounds_toArray]); (try simp only [List.set_cons_succ]); (try simp only [List.set_cons_zero])
    refine wpAnyH_ready (rs := [11]) (by kernel_rfl) (by simp) ?_
    refine (AllReadyH.cons (o := { dst := some 31, op := Op.call { callee := Callee.invoke (Operand.tmp 30) "colonnade/build.keep", args := #[], argTypes := #[] }, type := 1, pos := "trail.go:18", after := #[{ on := 10, ground := Ground.data }, { on := 6, ground := Ground.chain }], guard := none }) rfl (fun Kc hK => ?_) AllReadyH.nil)
    go_simp
    go_at_call 272
    refine Calls.mono (keep272 m wd lo M lc _ (HM.out _ HG.out)) ?_
    rintro e' w2 ⟨⟨fc, fd, rfl⟩, g2⟩
    replace HG := hidM (HG.out.trans g2 (fun _ _ h => h))
    clear g2
    go_wp2_with fail
    refine hK.out _ _ ((HI.out _ HG.out)) (fun hHeld => ?_)
    clear hK Kc
    (try simp only [Act.put]); (try simp only [List.setIfInBounds_toArray]); (try simp only [List.set_cons_succ]); (try simp only [List.set_cons_zero])
    refine wpAnyH_ready (rs := [12]) (by kernel_rfl) (by simp) ?_
    refine (AllReadyH.cons (o := { dst := some 32, op := Op.buildSlice 115 2 #[(0, Operand.tmp 26), (1, Operand.tmp 31)], type := 115, pos := "trail.go:18", after := #[{ on := 6, ground := Ground.data }, { on := 11, ground := Ground.data }], guard := none }) rfl (fun Kc hK => ?_) AllReadyH.nil)
    have HSr := hidM (src_two w2 (.func (.func 141) #[] #[fa, fb]) (.func (.func 277) #[] #[fc, fd]) rfl rfl)
    replace HG := hidM (HG.out.alloc (.cells #[.func (.func 141) #[] #[fa, fb], .func (.func 277) #[] #[fc, fd]] 1))
    go_simp
    refine hK.out _ _ ((HI.out _ HG.out)) (fun hHeld => ?_)
    clear hK Kc
    (try simp only [Act.put]); (try simp only [List.setIfInBounds_toArray]); (try simp only [List.set_cons_succ]); (try simp only [List.set_cons_zero])
    refine wpAnyH_ready (rs := [13]) (by kernel_rfl) (by simp) ?_
    refine (AllReadyH.cons (o := { dst := some 33, op := Op.call { callee := Callee.builtin Builtin.append, args := #[Operand.tmp 24, Operand.tmp 32], argTypes := #[115, 115] }, type := 115, pos := "trail.go:18", after := #[{ on := 4, ground := Ground.data }, { on := 12, ground := Ground.data }, { on := 11, ground := Ground.chain }], guard := none }) rfl (fun Kc hK => ?_) AllReadyH.nil)
    refine step_append_any _ rfl (.tmp 24) (.tmp 32) 115 115 rfl 1 .nilFunc 8 Tryz.underlying115 info1 rfl (.slice none 0 0) 0 [] rfl ⟨by simp, .inl ⟨rfl, rfl⟩⟩ (.slice (some ⟨w2.heap.size, 0, none⟩) 2 2) 2 [.func (.func 141) #[] #[fa, fb], .func (.func 277) #[] #[fc, fd]] rfl HSr.out (by omega) (by omega) ?_
    intro v' w5 ha1 ha2 ha3
    obtain ⟨uo, uc, rfl⟩ := own_formN ha1
    replace HG := hidM (HG.out.trans (show Gr _ w5 from (Keeps.ofGrown ha2).mono (fun _ _ h => by simp [Value.ownBlock] at h)) (fun _ _ h => h))
    clear ha1 ha2 ha3
    refine hK.out _ _ ((HI.out _ HG.out)) (fun hHeld => ?_)
    clear hK Kc
    (try simp only [Act.put]); (try simp only [List.setIfInBounds_toArray]); (try simp only [List.set_cons_succ]); (try simp only [List.set_cons_zero])
    refine wpAnyH_take (i := 14) (oi := { dst := some 34, op := Op.nilCheck (Operand.tmp 20), type := 0, pos := "trail.go:18", after := #[{ on := 0, ground := Ground.data }, { on := 0, ground := Ground.phase }, { on := 1, ground := Ground.phase }, { on := 2, ground := Ground.phase }, { on := 3, ground := Ground.phase }, { on := 4, ground := Ground.phase }, { on := 5, ground := Ground.phase }, { on := 6, ground := Ground.phase }, { on := 7, ground := Ground.phase }, { on := 8, ground := Ground.phase }, { on := 9, ground := Ground.phase }, { on := 10, ground := Ground.phase }, { on := 11, ground := Ground.phase }, { on := 12, ground := Ground.phase }, { on := 13, ground := Ground.phase }], guard := none }) (v := ?v14t11) rfl (by kernel_rfl) (by kernel_rfl) (by kernel_rfl) (fun _ _ _ h => h) (Or.inl ⟨by rfl, ?y14t11⟩) (by assumption) ?r14t11
    case y14t11 => (intro w hSw; go_simp; (try with_reducible rfl))
    (try simp only [Act.put]); (try simp only [List.setIfInBounds_toArray]); (try simp only [List.set_cons_succ]); (try simp only [List.set_cons_zero])
    refine wpAnyH_take (i := 15) (oi := { dst := some 35, op := Op.fieldAddr 117 (Operand.tmp 34) 1, type := 0, pos := "trail.go:18", after := #[{ on := 14, ground := Ground.data }, { on := 0, ground := Ground.phase }, { on := 1, ground := Ground.phase }, { on := 2, ground := Ground.phase }, { on := 3, ground := Ground.phase }, { on := 4, ground := Ground.phase }, { on := 5, ground := Ground.phase }, { on := 6, ground := Ground.phase }, { on := 7, ground := Ground.phase }, { on := 8, ground := Ground.phase }, { on := 9, ground := Ground.phase }, { on := 10, ground := Ground.phase }, { on := 11, ground := Ground.phase }, { on := 12, ground := Ground.phase }, { on := 13, ground := Ground.phase }], guard := none }) (v := ?v15t12) rfl (by kernel_rfl) (by kernel_rfl) (by kernel_rfl) (fun _ _ _ h => h) (Or.inl ⟨by rfl, ?y15t12⟩) (by assumption) ?r15t12
    case y15t12 => (intro w hSw; go_simp; (try with_reducible rfl))
    (try simp only [Act.put]); (try simp only [List.setIfInBounds_toArray]); (try simp only [List.set_cons_succ]); (try simp only [List.set_cons_zero])
    refine wpAnyH_ready (rs := [16]) (by kernel_rfl) (by simp) ?_
    refine (AllReadyH.cons (o := { dst := none, op := Op.store 115 (Operand.tmp 35) (Operand.tmp 33), type := 0, pos := "trail.go:18", after := #[{ on := 15, ground := Ground.data }, { on := 13, ground := Ground.data }, { on := 13, ground := Ground.chain }, { on := 0, ground := Ground.phase }, { on := 1, ground := Ground.phase }, { on := 2, ground := Ground.phase }, { on := 3, ground := Ground.phase }, { on := 4, ground := Ground.phase }, { on := 5, ground := Ground.phase }, { on := 6, ground := Ground.phase }, { on := 7, ground := Ground.phase }, { on := 8, ground := Ground.phase }, { on := 9, ground := Ground.phase }, { on := 10, ground := Ground.phase }, { on := 11, ground := Ground.phase }, { on := 12, ground := Ground.phase }, { on := 13, ground := Ground.phase }], guard := none }) rfl (fun Kc hK => ?_) AllReadyH.nil)
    have z1 := frz (HTT.out _ HG.out) 1
    have tc := HT.out _ HG.out
    have HF := hidM (HE.out _ (.slice uo (0 + 2) uc) HG.out)
    obtain ⟨V6, hV6⟩ : ∃ V6, w5.setCell ⟨t, 1, none⟩ (.slice uo (0 + 2) uc) = V6 := ⟨_, rfl⟩
    rw [hV6] at HF
    go_simp
    refine hK.out _ _ (HF.out.2.2.2) (fun hHeld => ?_)
    clear hK Kc
    refine wpAnyH_done (by kernel_rfl) ?_ _
    go_wp2
    go_end0
    exact ⟨rfl, HF.out.1, HF.out.2.1, _, HF.out.2.2.1⟩
  · go_simp
    go_at_call 131
    refine Calls.mono (kept131 n nu m t k vo L vc wt _ (HN.out _ HG.out)) ?_
    rintro e' w1 ⟨⟨fa, fb, rfl⟩, g1⟩
    replace HG := hidM (HG.out.trans g1 (fun _ _ h => h))
    clear g1
    go_wp2_with fail
    refine hK.out _ _ ((HI.out _ HG.out)) (fun hHeld => ?_)
    clear hK Kc
    (try simp only [Act.put]); (try simp only [List.setIfInBounds_toArray]); (try simp only [List.set_cons_succ]); (try simp only [List.set_cons_zero])
    refine wpAnyH_ready (rs := [4, 11]) (by kernel_rfl) (by simp) ?_
    refine (AllReadyH.cons (o := { dst := some 24, op := Op.load 115 (Operand.tmp 23), type := 115, pos := "trail.go:18", after := #[{ on := 3, ground := Ground.data }], guard := none }) rfl (fun Kc hK => ?_) (AllReadyH.cons (o := { dst := some 31, op := Op.call { callee := Callee.invoke (Operand.tmp 30) "colonnade/build.keep", args := #[], argTypes := #[] }, type := 1, pos := "trail.go:18", after := #[{ on := 10, ground := Ground.data }, { on := 6, ground := Ground.chain }], guard := none }) rfl (fun Kc hK => ?_) AllReadyH.nil))
    · have tc := HT.out _ HG.out
      go_simp
      refine hK.out _ _ (hHeld) (fun hHeld => ?_)
      clear hK Kc tc
      (try simp only [Act.put]); (try simp only [List.setIfInBounds_toArray]); (try simp only [List.set_cons_succ]); (try simp only [List.set_cons_zero])
      refine wpAnyH_ready (rs := [11]) (by kernel_rfl) (by simp) ?_
      refine (AllReadyH.cons (o := { dst := some 31, op := Op.call { callee := Callee.invoke (Operand.tmp 30) "colonnade/build.keep", args := #[], argTypes := #[] }, type := 1, pos := "trail.go:18", after := #[{ on := 10, ground := Ground.data }, { on := 6, ground := Ground.chain }], guard := none }) rfl (fun Kc hK => ?_) AllReadyH.nil)
      go_simp
      go_at_call 272
      refine Calls.mono (keep272 m wd lo M lc _ (HM.out _ HG.out)) ?_
      rintro e' w2 ⟨⟨fc, fd, rfl⟩, g2⟩
      replace HG := hidM (HG.out.trans g2 (fun _ _ h => h))
      clear g2
      go_wp2_with fail
      refine hK.out _ _ ((HI.out _ HG.out)) (fun hHeld => ?_)
      clear hK Kc
      (try simp only [Act.put]); (try simp only [List.setIfInBounds_toArray]); (try simp only [List.set_cons_succ]); (try simp only [List.set_cons_zero])
      refine wpAnyH_ready (rs := [12]) (by kernel_rfl) (by simp) ?_
      refine (AllReadyH.cons (o := { dst := some 32, op := Op.buildSlice 115 2 #[(0, Operand.tmp 26), (1, Operand.tmp 31)], type := 115, pos := "trail.go:18", after := #[{ on := 6, ground := Ground.data }, { on := 11, ground := Ground.data }], guard := none }) rfl (fun Kc hK => ?_) AllReadyH.nil)
      have HSr := hidM (src_two w2 (.func (.func 141) #[] #[fa, fb]) (.func (.func 277) #[] #[fc, fd]) rfl rfl)
      replace HG := hidM (HG.out.alloc (.cells #[.func (.func 141) #[] #[fa, fb], .func (.func 277) #[] #[fc, fd]] 1))
      go_simp
      refine hK.out _ _ ((HI.out _ HG.out)) (fun hHeld => ?_)
      clear hK Kc
      (try simp only [Act.put]); (try simp only [List.setIfInBounds_toArray]); (try simp only [List.set_cons_succ]); (try simp only [List.set_cons_zero])
      refine wpAnyH_ready (rs := [13]) (by kernel_rfl) (by simp) ?_
      refine (AllReadyH.cons (o := { dst := some 33, op := Op.call { callee := Callee.builtin Builtin.append, args := #[Operand.tmp 24, Operand.tmp 32], argTypes := #[115, 115] }, type := 115, pos := "trail.go:18", after := #[{ on := 4, ground := Ground.data }, { on := 12, ground := Ground.data }, { on := 11, ground := Ground.chain }], guard := none }) rfl (fun Kc hK => ?_) AllReadyH.nil)
      refine step_append_any _ rfl (.tmp 24) (.tmp 32) 115 115 rfl 1 .nilFunc 8 Tryz.underlying115 info1 rfl (.slice none 0 0) 0 [] rfl ⟨by simp, .inl ⟨rfl, rfl⟩⟩ (.slice (some ⟨w2.heap.size, 0, none⟩) 2 2) 2 [.func (.func 141) #[] #[fa, fb], .func (.func 277) #[] #[fc, fd]] rfl HSr.out (by omega) (by omega) ?_
      intro v' w5 ha1 ha2 ha3
      obtain ⟨uo, uc, rfl⟩ := own_formN ha1
      replace HG := hidM (HG.out.trans (show Gr _ w5 from (Keeps.ofGrown ha2).mono (fun _ _ h => by simp [Value.ownBlock] at h)) (fun _ _ h => h))
      clear ha1 ha2 ha3
      refine hK.out _ _ ((HI.out _ HG.out)) (fun hHeld => ?_)
      clear hK Kc
      (try simp only [Act.put]); (try simp only [List.setIfInBounds_toArray]); (try simp only [List.set_cons_succ]); (try simp only [List.set_cons_zero])
      refine wpAnyH_take (i := 14) (oi := { dst := some 34, op := Op.nilCheck (Operand.tmp 20), type := 0, pos := "trail.go:18", after := #[{ on := 0, ground := Ground.data }, { on := 0, ground := Ground.phase }, { on := 1, ground := Ground.phase }, { on := 2, ground := Ground.phase }, { on := 3, ground := Ground.phase }, { on := 4, ground := Ground.phase }, { on := 5, ground := Ground.phase }, { on := 6, ground := Ground.phase }, { on := 7, ground := Ground.phase }, { on := 8, ground := Ground.phase }, { on := 9, ground := Ground.phase }, { on := 10, ground := Ground.phase }, { on := 11, ground := Ground.phase }, { on := 12, ground := Ground.phase }, { on := 13, ground := Ground.phase }], guard := none }) (v := ?v14t21) rfl (by kernel_rfl) (by kernel_rfl) (by kernel_rfl) (fun _ _ _ h => h) (Or.inl ⟨by rfl, ?y14t21⟩) (by assumption) ?r14t21
      case y14t21 => (intro w hSw; go_simp; (try with_reducible rfl))
      (try simp only [Act.put]); (try simp only [List.setIfInBounds_toArray]); (try simp only [List.set_cons_succ]); (try simp only [List.set_cons_zero])
      refine wpAnyH_take (i := 15) (oi := { dst := some 35, op := Op.fieldAddr 117 (Operand.tmp 34) 1, type := 0, pos := "trail.go:18", after := #[{ on := 14, ground := Ground.data }, { on := 0, ground := Ground.phase }, { on := 1, ground := Ground.phase }, { on := 2, ground := Ground.phase }, { on := 3, ground := Ground.phase }, { on := 4, ground := Ground.phase }, { on := 5, ground := Ground.phase }, { on := 6, ground := Ground.phase }, { on := 7, ground := Ground.phase }, { on := 8, ground := Ground.phase }, { on := 9, ground := Ground.phase }, { on := 10, ground := Ground.phase }, { on := 11, ground := Ground.phase }, { on := 12, ground := Ground.phase }, { on := 13, ground := Ground.phase }], guard := none }) (v := ?v15t22) rfl (by kernel_rfl) (by kernel_rfl) (by kernel_rfl) (fun _ _ _ h => h) (Or.inl ⟨by rfl, ?y15t22⟩) (by assumption) ?r15t22
      case y15t22 => (intro w hSw; go_simp; (try with_reducible rfl))
      (try simp only [Act.put]); (try simp only [List.setIfInBounds_toArray]); (try simp only [List.set_cons_succ]); (try simp only [List.set_cons_zero])
      refine wpAnyH_ready (rs := [16]) (by kernel_rfl) (by simp) ?_
      refine (AllReadyH.cons (o := { dst := none, op := Op.store 115 (Operand.tmp 35) (Operand.tmp 33), type := 0, pos := "trail.go:18", after := #[{ on := 15, ground := Ground.data }, { on := 13, ground := Ground.data }, { on := 13, ground := Ground.chain }, { on := 0, ground := Ground.phase }, { on := 1, ground := Ground.phase }, { on := 2, ground := Ground.phase }, { on := 3, ground := Ground.phase }, { on := 4, ground := Ground.phase }, { on := 5, ground := Ground.phase }, { on := 6, ground := Ground.phase }, { on := 7, ground := Ground.phase }, { on := 8, ground := Ground.phase }, { on := 9, ground := Ground.phase }, { on := 10, ground := Ground.phase }, { on := 11, ground := Ground.phase }, { on := 12, ground := Ground.phase }, { on := 13, ground := Ground.phase }], guard := none }) rfl (fun Kc hK => ?_) AllReadyH.nil)
      have z1 := frz (HTT.out _ HG.out) 1
      have tc := HT.out _ HG.out
      have HF := hidM (HE.out _ (.slice uo (0 + 2) uc) HG.out)
      obtain ⟨V6, hV6⟩ : ∃ V6, w5.setCell ⟨t, 1, none⟩ (.slice uo (0 + 2) uc) = V6 := ⟨_, rfl⟩
      rw [hV6] at HF
      go_simp
      refine hK.out _ _ (HF.out.2.2.2) (fun hHeld => ?_)
      clear hK Kc
      refine wpAnyH_done (by kernel_rfl) ?_ _
      go_wp2
      go_end0
      exact ⟨rfl, HF.out.1, HF.out.2.1, _, HF.out.2.2.1⟩
    · go_simp
      go_at_call 272
      refine Calls.mono (keep272 m wd lo M lc _ (HM.out _ HG.out)) ?_
      rintro e' w2 ⟨⟨fc, fd, rfl⟩, g2⟩
      replace HG := hidM (HG.out.trans g2 (fun _ _ h => h))
      clear g2
      go_wp2_with fail
      refine hK.out _ _ ((HI.out _ HG.out)) (fun hHeld => ?_)
      clear hK Kc
      (try simp only [Act.put]); (try simp only [List.setIfInBounds_toArray]); (try simp only [List.set_cons_succ]); (try simp only [List.set_cons_zero])
      refine wpAnyH_ready (rs := [4, 12]) (by kernel_rfl) (by simp) ?_
      refine (AllReadyH.cons (o := { dst := some 24, op := Op.load 115 (Operand.tmp 23), type := 115, pos := "trail.go:18", after := #[{ on := 3, ground := Ground.data }], guard := none }) rfl (fun Kc hK => ?_) (AllReadyH.cons (o := { dst := some 32, op := Op.buildSlice 115 2 #[(0, Operand.tmp 26), (1, Operand.tmp 31)], type := 115, pos := "trail.go:18", after := #[{ on := 6, ground := Ground.data }, { on := 11, ground := Ground.data }], guard := none }) rfl (fun Kc hK => ?_) AllReadyH.nil))
      · have tc := HT.out _ HG.out
        go_simp
        refine hK.out _ _ (hHeld) (fun hHeld => ?_)
        clear hK Kc tc
        (try simp only [Act.put]); (try simp only [List.setIfInBounds_toArray]); (try simp only [List.set_cons_succ]); (try simp only [List.set_cons_zero])
        refine wpAnyH_ready (rs := [12]) (by kernel_rfl) (by simp) ?_
        refine (AllReadyH.cons (o := { dst := some 32, op := Op.buildSlice 115 2 #[(0, Operand.tmp 26), (1, Operand.tmp 31)], type := 115, pos := "trail.go:18", after := #[{ on := 6, ground := Ground.data }, { on := 11, ground := Ground.data }], guard := none }) rfl (fun Kc hK => ?_) AllReadyH.nil)
        have HSr := hidM (src_two w2 (.func (.func 141) #[] #[fa, fb]) (.func (.func 277) #[] #[fc, fd]) rfl rfl)
        replace HG := hidM (HG.out.alloc (.cells #[.func (.func 141) #[] #[fa, fb], .func (.func 277) #[] #[fc, fd]] 1))
        go_simp
        refine hK.out _ _ ((HI.out _ HG.out)) (fun hHeld => ?_)
        clear hK Kc
        (try simp only [Act.put]); (try simp only [List.setIfInBounds_toArray]); (try simp only [List.set_cons_succ]); (try simp only [List.set_cons_zero])
        refine wpAnyH_ready (rs := [13]) (by kernel_rfl) (by simp) ?_
        refine (AllReadyH.cons (o := { dst := some 33, op := Op.call { callee := Callee.builtin Builtin.append, args := #[Operand.tmp 24, Operand.tmp 32], argTypes := #[115, 115] }, type := 115, pos := "trail.go:18", after := #[{ on := 4, ground := Ground.data }, { on := 12, ground := Ground.data }, { on := 11, ground := Ground.chain }], guard := none }) rfl (fun Kc hK => ?_) AllReadyH.nil)
        refine step_append_any _ rfl (.tmp 24) (.tmp 32) 115 115 rfl 1 .nilFunc 8 Tryz.underlying115 info1 rfl (.slice none 0 0) 0 [] rfl ⟨by simp, .inl ⟨rfl, rfl⟩⟩ (.slice (some ⟨w2.heap.size, 0, none⟩) 2 2) 2 [.func (.func 141) #[] #[fa, fb], .func (.func 277) #[] #[fc, fd]] rfl HSr.out (by omega) (by omega) ?_
        intro v' w5 ha1 ha2 ha3
        obtain ⟨uo, uc, rfl⟩ := own_formN ha1
        replace HG := hidM (HG.out.trans (show Gr _ w5 from (Keeps.ofGrown ha2).mono (fun _ _ h => by simp [Value.ownBlock] at h)) (fun _ _ h => h))
        clear ha1 ha2 ha3
        refine hK.out _ _ ((HI.out _ HG.out)) (fun hHeld => ?_)
        clear hK Kc
        (try simp only [Act.put]); (try simp only [List.setIfInBounds_toArray]); (try simp only [List.set_cons_succ]); (try simp only [List.set_cons_zero])
        refine wpAnyH_take (i := 14) (oi := { dst := some 34, op := Op.nilCheck (Operand.tmp 20), type := 0, pos := "trail.go:18", after := #[{ on := 0, ground := Ground.data }, { on := 0, ground := Ground.phase }, { on := 1, ground := Ground.phase }, { on := 2, ground := Ground.phase }, { on := 3, ground := Ground.phase }, { on := 4, ground := Ground.phase }, { on := 5, ground := Ground.phase }, { on := 6, ground := Ground.phase }, { on := 7, ground := Ground.phase }, { on := 8, ground := Ground.phase }, { on := 9, ground := Ground.phase }, { on := 10, ground := Ground.phase }, { on := 11, ground := Ground.phase }, { on := 12, ground := Ground.phase }, { on := 13, ground := Ground.phase }], guard := none }) (v := ?v14t31) rfl (by kernel_rfl) (by kernel_rfl) (by kernel_rfl) (fun _ _ _ h => h) (Or.inl ⟨by rfl, ?y14t31⟩) (by assumption) ?r14t31
        case y14t31 => (intro w hSw; go_simp; (try with_reducible rfl))
        (try simp only [Act.put]); (try simp only [List.setIfInBounds_toArray]); (try simp only [List.set_cons_succ]); (try simp only [List.set_cons_zero])
        refine wpAnyH_take (i := 15) (oi := { dst := some 35, op := Op.fieldAddr 117 (Operand.tmp 34) 1, type := 0, pos := "trail.go:18", after := #[{ on := 14, ground := Ground.data }, { on := 0, ground := Ground.phase }, { on := 1, ground := Ground.phase }, { on := 2, ground := Ground.phase }, { on := 3, ground := Ground.phase }, { on := 4, ground := Ground.phase }, { on := 5, ground := Ground.phase }, { on := 6, ground := Ground.phase }, { on := 7, ground := Ground.phase }, { on := 8, ground := Ground.phase }, { on := 9, ground := Ground.phase }, { on := 10, ground := Ground.phase }, { on := 11, ground := Ground.phase }, { on := 12, ground := Ground.phase }, { on := 13, ground := Ground.phase }], guard := none }) (v := ?v15t32) rfl (by kernel_rfl) (by kernel_rfl) (by kernel_rfl) (fun _ _ _ h => h) (Or.inl ⟨by rfl, ?y15t32⟩) (by assumption) ?r15t32
        case y15t32 => (intro w hSw; go_simp; (try with_reducible rfl))
        (try simp only [Act.put]); (try simp only [List.setIfInBounds_toArray]); (try simp only [List.set_cons_succ]); (try simp only [List.set_cons_zero])
        refine wpAnyH_ready (rs := [16]) (by kernel_rfl) (by simp) ?_
        refine (AllReadyH.cons (o := { dst := none, op := Op.store 115 (Operand.tmp 35) (Operand.tmp 33), type := 0, pos := "trail.go:18", after := #[{ on := 15, ground := Ground.data }, { on := 13, ground := Ground.data }, { on := 13, ground := Ground.chain }, { on := 0, ground := Ground.phase }, { on := 1, ground := Ground.phase }, { on := 2, ground := Ground.phase }, { on := 3, ground := Ground.phase }, { on := 4, ground := Ground.phase }, { on := 5, ground := Ground.phase }, { on := 6, ground := Ground.phase }, { on := 7, ground := Ground.phase }, { on := 8, ground := Ground.phase }, { on := 9, ground := Ground.phase }, { on := 10, ground := Ground.phase }, { on := 11, ground := Ground.phase }, { on := 12, ground := Ground.phase }, { on := 13, ground := Ground.phase }], guard := none }) rfl (fun Kc hK => ?_) AllReadyH.nil)
        have z1 := frz (HTT.out _ HG.out) 1
        have tc := HT.out _ HG.out
        have HF := hidM (HE.out _ (.slice uo (0 + 2) uc) HG.out)
        obtain ⟨V6, hV6⟩ : ∃ V6, w5.setCell ⟨t, 1, none⟩ (.slice uo (0 + 2) uc) = V6 := ⟨_, rfl⟩
        rw [hV6] at HF
        go_simp
        refine hK.out _ _ (HF.out.2.2.2) (fun hHeld => ?_)
        clear hK Kc
        refine wpAnyH_done (by kernel_rfl) ?_ _
        go_wp2
        go_end0
        exact ⟨rfl, HF.out.1, HF.out.2.1, _, HF.out.2.2.1⟩
      · have HSr := hidM (src_two w2 (.func (.func 141) #[] #[fa, fb]) (.func (.func 277) #[] #[fc, fd]) rfl rfl)
        replace HG := hidM (HG.out.alloc (.cells #[.func (.func 141) #[] #[fa, fb], .func (.func 277) #[] #[fc, fd]] 1))
        go_simp
        refine hK.out _ _ ((HI.out _ HG.out)) (fun hHeld => ?_)
        clear hK Kc
        (try simp only [Act.put]); (try simp only [List.setIfInBounds_toArray]); (try simp only [List.set_cons_succ]); (try simp only [List.set_cons_zero])
        refine wpAnyH_ready (rs := [4]) (by kernel_rfl) (by simp) ?_
        refine (AllReadyH.cons (o := { dst := some 24, op := Op.load 115 (Operand.tmp 23), type := 115, pos := "trail.go:18", after := #[{ on := 3, ground := Ground.data }], guard := none }) rfl (fun Kc hK => ?_) AllReadyH.nil)
        have tc := HT.out _ HG.out
        go_simp
        refine hK.out _ _ (hHeld) (fun hHeld => ?_)
        clear hK Kc tc
        (try simp only [Act.put]); (try simp only [List.setIfInBounds_toArray]); (try simp only [List.set_cons_succ]); (try simp only [List.set_cons_zero])
        refine wpAnyH_ready (rs := [13]) (by kernel_rfl) (by simp) ?_
        refine (AllReadyH.cons (o := { dst := some 33, op := Op.call { callee := Callee.builtin Builtin.append, args := #[Operand.tmp 24, Operand.tmp 32], argTypes := #[115, 115] }, type := 115, pos := "trail.go:18", after := #[{ on := 4, ground := Ground.data }, { on := 12, ground := Ground.data }, { on := 11, ground := Ground.chain }], guard := none }) rfl (fun Kc hK => ?_) AllReadyH.nil)
        refine step_append_any _ rfl (.tmp 24) (.tmp 32) 115 115 rfl 1 .nilFunc 8 Tryz.underlying115 info1 rfl (.slice none 0 0) 0 [] rfl ⟨by simp, .inl ⟨rfl, rfl⟩⟩ (.slice (some ⟨w2.heap.size, 0, none⟩) 2 2) 2 [.func (.func 141) #[] #[fa, fb], .func (.func 277) #[] #[fc, fd]] rfl HSr.out (by omega) (by omega) ?_
        intro v' w5 ha1 ha2 ha3
        obtain ⟨uo, uc, rfl⟩ := own_formN ha1
        replace HG := hidM (HG.out.trans (show Gr _ w5 from (Keeps.ofGrown ha2).mono (fun _ _ h => by simp [Value.ownBlock] at h)) (fun _ _ h => h))
        clear ha1 ha2 ha3
        refine hK.out _ _ ((HI.out _ HG.out)) (fun hHeld => ?_)
        clear hK Kc
        (try simp only [Act.put]); (try simp only [List.setIfInBounds_toArray]); (try simp only [List.set_cons_succ]); (try simp only [List.set_cons_zero])
        refine wpAnyH_take (i := 14) (oi := { dst := some 34, op := Op.nilCheck (Operand.tmp 20), type := 0, pos := "trail.go:18", after := #[{ on := 0, ground := Ground.data }, { on := 0, ground := Ground.phase }, { on := 1, ground := Ground.phase }, { on := 2, ground := Ground.phase }, { on := 3, ground := Ground.phase }, { on := 4, ground := Ground.phase }, { on := 5, ground := Ground.phase }, { on := 6, ground := Ground.phase }, { on := 7, ground := Ground.phase }, { on := 8, ground := Ground.phase }, { on := 9, ground := Ground.phase }, { on := 10, ground := Ground.phase }, { on := 11, ground := Ground.phase }, { on := 12, ground := Ground.phase }, { on := 13, ground := Ground.phase }], guard := none }) (v := ?v14t41) rfl (by kernel_rfl) (by kernel_rfl) (by kernel_rfl) (fun _ _ _ h => h) (Or.inl ⟨by rfl, ?y14t41⟩) (by assumption) ?r14t41
        case y14t41 => (intro w hSw; go_simp; (try with_reducible rfl))
        (try simp only [Act.put]); (try simp only [List.setIfInBounds_toArray]); (try simp only [List.set_cons_succ]); (try simp only [List.set_cons_zero])
        refine wpAnyH_take (i := 15) (oi := { dst := some 35, op := Op.fieldAddr 117 (Operand.tmp 34) 1, type := 0, pos := "trail.go:18", after := #[{ on := 14, ground := Ground.data }, { on := 0, ground := Ground.phase }, { on := 1, ground := Ground.phase }, { on := 2, ground := Ground.phase }, { on := 3, ground := Ground.phase }, { on := 4, ground := Ground.phase }, { on := 5, ground := Ground.phase }, { on := 6, ground := Ground.phase }, { on := 7, ground := Ground.phase }, { on := 8, ground := Ground.phase }, { on := 9, ground := Ground.phase }, { on := 10, ground := Ground.phase }, { on := 11, ground := Ground.phase }, { on := 12, ground := Ground.phase }, { on := 13, ground := Ground.phase }], guard := none }) (v := ?v15t42) rfl (by kernel_rfl) (by kernel_rfl) (by kernel_rfl) (fun _ _ _ h => h) (Or.inl ⟨by rfl, ?y15t42⟩) (by assumption) ?r15t42
        case y15t42 => (intro w hSw; go_simp; (try with_reducible rfl))
        (try simp only [Act.put]); (try simp only [List.setIfInBounds_toArray]); (try simp only [List.set_cons_succ]); (try simp only [List.set_cons_zero])
        refine wpAnyH_ready (rs := [16]) (by kernel_rfl) (by simp) ?_
        refine (AllReadyH.cons (o := { dst := none, op := Op.store 115 (Operand.tmp 35) (Operand.tmp 33), type := 0, pos := "trail.go:18", after := #[{ on := 15, ground := Ground.data }, { on := 13, ground := Ground.data }, { on := 13, ground := Ground.chain }, { on := 0, ground := Ground.phase }, { on := 1, ground := Ground.phase }, { on := 2, ground := Ground.phase }, { on := 3, ground := Ground.phase }, { on := 4, ground := Ground.phase }, { on := 5, ground := Ground.phase }, { on := 6, ground := Ground.phase }, { on := 7, ground := Ground.phase }, { on := 8, ground := Ground.phase }, { on := 9, ground := Ground.phase }, { on := 10, ground := Ground.phase }, { on := 11, ground := Ground.phase }, { on := 12, ground := Ground.phase }, { on := 13, ground := Ground.phase }], guard := none }) rfl (fun Kc hK => ?_) AllReadyH.nil)
        have z1 := frz (HTT.out _ HG.out) 1
        have tc := HT.out _ HG.out
        have HF := hidM (HE.out _ (.slice uo (0 + 2) uc) HG.out)
        obtain ⟨V6, hV6⟩ : ∃ V6, w5.setCell ⟨t, 1, none⟩ (.slice uo (0 + 2) uc) = V6 := ⟨_, rfl⟩
        rw [hV6] at HF
        go_simp
        refine hK.out _ _ (HF.out.2.2.2) (fun hHeld => ?_)
        clear hK Kc
        refine wpAnyH_done (by kernel_rfl) ?_ _
        go_wp2
        go_end0
        exact ⟨rfl, HF.out.1, HF.out.2.1, _, HF.out.2.2.1⟩
end Go.Proofs.YtegjpmodleigeaaGreatDoor.Kit
