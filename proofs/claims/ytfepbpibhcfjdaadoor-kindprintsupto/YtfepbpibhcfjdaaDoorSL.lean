import Derived.Test.YtfepbpibhcfjdaaDoorSK
namespace Go.Proofs.YtfepbpibhcfjdaaDoor.Kit
open Go.RowKit Go.Shelf Go.Deep
set_option linter.unusedVariables false
attribute [local go_sem] run_store_func

theorem ntB_size {n : ByteArray × ByteArray} (h : n.1.size ≤ 256 ∧ n.2.size ≤ 256) : (ntB n).size ≤ 3000 := by
  have h1 := qtB_size n.1
  have h2 := qtB_size n.2
  unfold ntB
  rw [ByteArray.size_append, ByteArray.size_append]
  have : (⟨#[32]⟩ : ByteArray).size = 1 := rfl
  omega
theorem nts_sum : ∀ {l : List (ByteArray × ByteArray)}, (∀ n ∈ l, n.1.size ≤ 256 ∧ n.2.size ≤ 256) → ((l.map ntB).map fun t => t.size + 2).sum ≤ 3002 * l.length
  | [], _ => by simp
  | n :: l, h => by
    have h1 := ntB_size (h n (by simp))
    have h2 := nts_sum (l := l) fun m hm => h m (by simp [hm])
    simp only [List.map_cons, List.sum_cons, List.length_cons]
    omega
theorem prB_size (jt : ByteArray) (us : List ByteArray) : (prB jt us).size ≤ jt.size + 3 + (us.map fun t => t.size + 2).sum := by
  have h1 := joinB_size us
  have e1 : (⟨#[32]⟩ : ByteArray).size = 1 := rfl
  have e2 : (⟨#[124, 32]⟩ : ByteArray).size = 2 := rfl
  unfold prB
  split
  · omega
  · split
    · rw [ByteArray.size_append, ByteArray.size_append]; omega
    · rw [ByteArray.size_append, ByteArray.size_append, ByteArray.size_append]; omega
theorem prB_nil (jt : ByteArray) : prB jt [] = jt := by unfold prB; rw [if_pos rfl]
theorem prB_snoc (jt : ByteArray) (us : List ByteArray) (x : ByteArray) (h : us ≠ []) : prB jt (us ++ [x]) = prB jt us ++ (⟨#[44, 32]⟩ : ByteArray) ++ x := by
  unfold prB
  rw [if_neg (by simp), if_neg h, joinB_snoc _ _ h]
  apply ByteArray.ext
  simp
theorem prB_one0 (jt x : ByteArray) (h : jt = ⟨#[]⟩) : prB jt [x] = jt ++ (⟨#[124, 32]⟩ : ByteArray) ++ x := by
  unfold prB
  rw [if_neg (by simp), if_pos h, joinB_one]
theorem prB_one1 (jt x : ByteArray) (h : ¬ jt = ⟨#[]⟩) : prB jt [x] = jt ++ (⟨#[32, 124, 32]⟩ : ByteArray) ++ x := by
  unfold prB
  rw [if_neg (by simp), if_neg h, joinB_one]
  apply ByteArray.ext
  simp
theorem empty_of {jt : ByteArray} (h : ¬ jt = ⟨#[]⟩) : jt.toList.isEmpty = false := by
  rw [ByteArray.toList_eq]
  cases hc : jt.data.toList.isEmpty with
  | false => rfl
  | true =>
    exfalso
    apply h
    apply ByteArray.ext
    have : jt.data.toList = [] := List.isEmpty_iff.1 hc
    simpa using this

set_option maxRecDepth 100000 in
set_option maxHeartbeats 4000000 in
theorem printR_true {fo no : Option Addr} {nf cf cn : Nat} {ns : List (ByteArray × ByteArray)} {jt : ByteArray} {p : List Nat} {tt : Int} {w : World} (hj : jt.size ≤ 1000000) (hn : NotesAt w no ns) (hn16 : ns.length ≤ 16) (hb : ∀ n ∈ ns, n.1.size ≤ 256 ∧ n.2.size ≤ 256)
    (hl : Tells w 25 (.agg #[.slice fo nf cf, .slice no ns.length cn]) 0 p tt) (h : AnsV 26 #[.slice fo nf cf] (.string jt) w) :
    AnsV 8 #[.agg #[.slice fo nf cf, .slice no ns.length cn]] (.tuple #[.string (prB jt (ns.map ntB)), .int .i64 0]) w := by
  intro W g
  have HL : Hid (∀ W', Gr W W' → Calls Tryd.prog 25 #[.agg #[.slice fo nf cf, .slice no ns.length cn]] W' fun e w' => ∃ vo vn vc, e = .returned (.agg #[.int .i64 0, .slice vo vn vc, .int .i64 tt]) ∧ Gr W' w') := fun W' g' => by
    refine Calls.mono (hl W' (g.trans g' (fun _ _ h => h))) ?_
    rintro e w' ⟨vo, vc, rfl, hg, -⟩
    exact ⟨vo, _, vc, rfl, hg⟩
  have H : Hid (∀ W', Gr W W' → Calls Tryd.prog 26 #[.slice fo nf cf] W' fun e w' => e = .returned (.string jt) ∧ Gr W' w') := fun W' g' => h W' (g.trans g' (fun _ _ h => h))
  have HR : Hid (ns ≠ [] → ∃ b o, no = some ⟨b, o, none⟩ ∧ ∀ i (h : i < ns.length), W.cell? ⟨b, o + i * 2, none⟩ = some (.string ns[i].1) ∧ W.cell? ⟨b, o + i * 2 + 1, none⟩ = some (.string ns[i].2)) := (hn.gr g).2
  have HQ : Hid (∀ s : ByteArray, s.size ≤ 256 → ∀ w, Calls Tryd.prog 27 #[.string s] w fun e w' => e = .returned (.string (qtB s)) ∧ Gr w w') := fun s h w => quoted_any s (by omega) w
  have HBd := hidM hb
  have HSz : Hid (∀ k, (prB jt ((ns.take k).map ntB)).size ≤ 2000000) := fun k => by
    have h1 := prB_size jt ((ns.take k).map ntB)
    have h2 := nts_sum (l := ns.take k) fun n hn => hb n (List.mem_of_mem_take hn)
    have h3 : (ns.take k).length ≤ 16 := by rw [List.length_take]; omega
    omega
  have x1 := World.alloc_heap_new W (.cells #[.slice fo nf cf, .slice no ns.length cn] 25)
  have HX := hidM x1
  obtain ⟨L, hL⟩ : ∃ L, L = ns.length := ⟨_, rfl⟩
  rw [← hL] at hn16 ⊢
  rw [← hL] at HL HX
  have HN16 := hidM hn16
  have hlen : L ≤ 1000000 := by omega
  have HLn : Hid (L = ns.length) := hL
  clear hl h g x1 hn hb hL hn16
  have hfl : ∀ vo vn vc w, (Instr.field 41 (.agg #[.int .i64 0, .slice vo vn vc, .int .i64 tt]) 0).run Tryd.prog w = .ok (.int .i64 0) w := fun vo vn vc w => by kernel_rfl
  go_enter Tryd.func8, Tryd.ntmps8
  go_wp2_with (go_at_call 25; refine Hid.out ?_)
  unfold Hid
  refine Calls.mono (HL.out _ (gr_alloc W _)) ?_
  rintro e W1 ⟨vo, vn, vc, rfl, hg1⟩
  have x1 := (hg1.block _ (lt_of_heap HX.out) (fun h => h)).trans HX.out
  have y0 : W1.cell? ⟨W.heap.size, 0, none⟩ = some (.slice fo nf cf) := by simp [World.cell?, x1]
  have HG := hidM (And.intro ((gr_alloc W _).trans hg1 (fun _ _ h => h)) x1)
  clear x1 hg1 HX HL
  go_wp2_with (go_at_call 26; refine Hid.out ?_)
  unfold Hid
  refine Calls.mono (H.out _ HG.out.1) ?_
  rintro e W3 ⟨rfl, hg3⟩
  have x1 := (hg3.block _ (lt_of_heap HG.out.2) (fun h => h)).trans HG.out.2
  have y1 : W3.cell? ⟨W.heap.size, 1, none⟩ = some (.slice no L cn) := by simp [World.cell?, x1]
  have HE := hidM (HG.out.1.trans hg3 (fun _ _ h => h))
  clear hg3 x1 y0 HG H
  go_wp2_with fail
  go_loopw [4, 17] (fun v i wr => ∃ (k : Nat) (ok : ByteArray), k ≤ L ∧ ok.size ≤ 2000000 ∧ i = .int .i64 (k : Int) ∧ v = .string ok ∧ Hid (ok = prB jt ((ns.take k).map ntB) ∧ Gr W wr)) (fun _ i _ => L - (intOf i).toNat)
  case atStart => exact ⟨0, jt, by omega, by omega, rfl, rfl, (prB_nil jt).symm, HE.out⟩
  case round =>
    obtain ⟨k, ok, hk, hok, rfl, rfl, HK⟩ := hrel
    by_cases hlt : k < L
    · have hl := HLn.out
      have hkl : k < ns.length := by omega
      obtain ⟨b, o, rfl, hcs⟩ := HR.out (fun e => by rw [e] at hkl; simp at hkl)
      obtain ⟨c0, c1⟩ := hcs k hkl
      have g0 := HK.out.2.cell' c0 id
      have g1 := HK.out.2.cell' c1 id
      have hbd := HBd.out ns[k] (List.getElem_mem hkl)
      have HTK : Hid ((ns.take (k + 1)).map ntB = (ns.take k).map ntB ++ [qtB ns[k].1 ++ (⟨#[32]⟩ : ByteArray) ++ qtB ns[k].2]) := by show _ = _; rw [List.take_add_one, List.getElem?_eq_getElem hkl, List.map_append]; rfl
      have HNE : Hid (0 < k → (ns.take k).map ntB ≠ []) := fun h0 e => by
        have := congrArg List.length e
        rw [List.length_map, List.length_take, List.length_nil] at this
        omega
      obtain ⟨ky, hky0⟩ : ∃ ky, ky = ns[k].1 := ⟨_, rfl⟩
      obtain ⟨tx, htx0⟩ : ∃ tx, tx = ns[k].2 := ⟨_, rfl⟩
      rw [← hky0, ← htx0] at HTK
      rw [← hky0] at g0
      rw [← htx0] at g1
      have hky : ky.size ≤ 256 := by rw [hky0]; exact hbd.1
      have htx : tx.size ≤ 256 := by rw [htx0]; exact hbd.2
      have hnew := HSz.out (k + 1)
      rw [HTK.out] at hnew
      clear hcs c0 c1 hl hkl hbd hky0 htx0
      obtain ⟨B, hB⟩ : ∃ B, B = wr.heap.size := ⟨_, rfl⟩
      have hbx : (wr.alloc (.cells #[.string ky, .string tx] 61)).heap[B]? = some (.cells #[.string ky, .string tx] 61) := by rw [hB]; exact World.alloc_heap_new wr _
      obtain ⟨q0, q1⟩ := cell2 hbx
      have HIN : Hid (Hid (Gr W (wr.alloc (.cells #[.string ky, .string tx] 61)).drew) ∧ (wr.alloc (.cells #[.string ky, .string tx] 61)).drew.cell? ⟨B, 0, none⟩ = some (.string ky) ∧ (wr.alloc (.cells #[.string ky, .string tx] 61)).drew.cell? ⟨B, 1, none⟩ = some (.string tx)) := ⟨(HK.out.2.alloc _).trans gr_drew (fun _ _ h => h), q0, q1⟩
      have HSk : Hid (∀ A C : World, (Hid (Gr W A) ∧ A.cell? ⟨B, 0, none⟩ = some (.string ky) ∧ A.cell? ⟨B, 1, none⟩ = some (.string tx)) → Gr A C → (Hid (Gr W C) ∧ C.cell? ⟨B, 0, none⟩ = some (.string ky) ∧ C.cell? ⟨B, 1, none⟩ = some (.string tx))) := fun A C h k => ⟨h.1.out.trans k (fun _ _ h => h), k.cell' h.2.1 id, k.cell' h.2.2 id⟩
      have z1 := qtB_size ky
      have z2 := qtB_size tx
      have s1 : (qtB ky ++ (⟨#[32]⟩ : ByteArray)).size = (qtB ky).size + 1 := by rw [ByteArray.size_append]; rfl
      have s2 : (qtB ky ++ (⟨#[32]⟩ : ByteArray) ++ qtB tx).size = (qtB ky).size + 1 + (qtB tx).size := by rw [ByteArray.size_append, s1]
      have m1 := add_run (qtB ky) ⟨#[32]⟩ (by show (qtB ky).size + 1 ≤ _; omega)
      have m2 := add_run (qtB ky ++ ⟨#[32]⟩) (qtB tx) (by rw [s1]; omega)
      clear q0 q1 hbx
      by_cases h0 : 0 < k
      · have h0I : (0 : Int) < (k : Int) := by omega
        have HEq : Hid (ok ++ (⟨#[44, 32]⟩ : ByteArray) ++ (qtB ky ++ (⟨#[32]⟩ : ByteArray) ++ qtB tx) = prB jt ((ns.take (k + 1)).map ntB)) := by
          show _ = _
          rw [HTK.out, prB_snoc _ _ _ (HNE.out h0), ← HK.out.1]
        have HNs : Hid ((ok ++ (⟨#[44, 32]⟩ : ByteArray) ++ (qtB ky ++ (⟨#[32]⟩ : ByteArray) ++ qtB tx)).size ≤ 2000000) := by show _ ≤ _; rw [HEq.out, HTK.out]; exact hnew
        have m3 := add_run ok ⟨#[44, 32]⟩ (by show ok.size + 2 ≤ _; omega)
        have HM5 : Hid ((ok ++ (⟨#[44, 32]⟩ : ByteArray)).size + (qtB ky ++ (⟨#[32]⟩ : ByteArray) ++ qtB tx).size ≤ 1000000000000) := by
          show _ ≤ _
          rw [ByteArray.size_append, s2]; have : (⟨#[44, 32]⟩ : ByteArray).size = 2 := rfl; omega
        clear hnew z1 z2 s1 s2 HK HTK
        go_wp2_with fail
        try rw [← hB]
        clear hB
        generalize wr.alloc (.cells #[.string ky, .string tx] 61) = W0 at *
        have m5 := add_run (ok ++ (⟨#[44, 32]⟩ : ByteArray)) (qtB ky ++ (⟨#[32]⟩ : ByteArray) ++ qtB tx) (HM5.out)
        refine wp_region_held_drew (S := fun w' => Hid (Gr W w') ∧ w'.cell? ⟨B, 0, none⟩ = some (.string ky) ∧ w'.cell? ⟨B, 1, none⟩ = some (.string tx)) (by kernel_rfl) (HIN.out) (fun hHeld => ?_)
        refine wpAnyH_take (i := 0) (oi := { dst := some 34, op := Op.move (Operand.tmp 4), type := 9, pos := "text.go:123", after := #[], guard := none }) (v := ?v0k1_1) rfl (by kernel_rfl) (by kernel_rfl) (by kernel_rfl) (fun _ _ _ h => h) (Or.inl ⟨by rfl, ?y0k1_1⟩) (by assumption) ?r0k1_1
        case y0k1_1 => (intro w hSw; obtain ⟨-, s1, s2⟩ := hSw; go_simp; (try with_reducible rfl))
        (try simp only [Act.put]); (try simp only [List.setIfInBounds_toArray]); (try simp only [List.set_cons_succ]); (try simp only [List.set_cons_zero])
        refine wpAnyH_take (i := 1) (oi := { dst := some 35, op := Op.fieldAddr 61 (Operand.tmp 6) 0, type := 0, pos := "text.go:123", after := #[], guard := none }) (v := ?v1k1_2) rfl (by kernel_rfl) (by kernel_rfl) (by kernel_rfl) (fun _ _ _ h => h) (Or.inl ⟨by rfl, ?y1k1_2⟩) (by assumption) ?r1k1_2
        case y1k1_2 => (intro w hSw; obtain ⟨-, s1, s2⟩ := hSw; go_simp; (try with_reducible rfl))
        (try simp only [Act.put]); (try simp only [List.setIfInBounds_toArray]); (try simp only [List.set_cons_succ]); (try simp only [List.set_cons_zero])
        refine wpAnyH_take (i := 2) (oi := { dst := some 36, op := Op.load 9 (Operand.tmp 35), type := 9, pos := "text.go:123", after := #[{ on := 1, ground := Ground.data }], guard := none }) (v := ?v2k1_3) rfl (by kernel_rfl) (by kernel_rfl) (by kernel_rfl) (fun _ _ _ h => h) (Or.inl ⟨by rfl, ?y2k1_3⟩) (by assumption) ?r2k1_3
        case y2k1_3 => (intro w hSw; obtain ⟨-, s1, s2⟩ := hSw; go_simp; (try with_reducible rfl))
        (try simp only [Act.put]); (try simp only [List.setIfInBounds_toArray]); (try simp only [List.set_cons_succ]); (try simp only [List.set_cons_zero])
        refine wpAnyH_take (i := 5) (oi := { dst := some 39, op := Op.fieldAddr 61 (Operand.tmp 6) 1, type := 0, pos := "text.go:123", after := #[], guard := none }) (v := ?v5k1_4) rfl (by kernel_rfl) (by kernel_rfl) (by kernel_rfl) (fun _ _ _ h => h) (Or.inl ⟨by rfl, ?y5k1_4⟩) (by assumption) ?r5k1_4
        case y5k1_4 => (intro w hSw; obtain ⟨-, s1, s2⟩ := hSw; go_simp; (try with_reducible rfl))
        (try simp only [Act.put]); (try simp only [List.setIfInBounds_toArray]); (try simp only [List.set_cons_succ]); (try simp only [List.set_cons_zero])
        refine wpAnyH_take (i := 6) (oi := { dst := some 40, op := Op.load 9 (Operand.tmp 39), type := 9, pos := "text.go:123", after := #[{ on := 5, ground := Ground.data }], guard := none }) (v := ?v6k1_5) rfl (by kernel_rfl) (by kernel_rfl) (by kernel_rfl) (fun _ _ _ h => h) (Or.inl ⟨by rfl, ?y6k1_5⟩) (by assumption) ?r6k1_5
        case y6k1_5 => (intro w hSw; obtain ⟨-, s1, s2⟩ := hSw; go_simp; (try with_reducible rfl))
        (try simp only [Act.put]); (try simp only [List.setIfInBounds_toArray]); (try simp only [List.set_cons_succ]); (try simp only [List.set_cons_zero])
        refine wpAnyH_ready (rs := [3]) (by kernel_rfl) (by simp) ?_
        refine AllReadyH.cons (o := { dst := some 37, op := Op.call { callee := Callee.value (Operand.func 27), args := #[Operand.tmp 36], argTypes := #[9] }, type := 9, pos := "text.go:123", after := #[{ on := 2, ground := Ground.data }], guard := none }) rfl (fun K hK => ?_) AllReadyH.nil
        go_simp
        go_at_call 27
        refine Calls.mono (HQ.out ky hky _) ?_
        rintro e' v1 ⟨rfl, hk1⟩
        go_wp2_with fail
        refine hK.out _ _ (HSk.out _ _ hHeld hk1) (fun hHeld => ?_)
        clear hK K
        (try simp only [Act.put]); (try simp only [List.setIfInBounds_toArray]); (try simp only [List.set_cons_succ]); (try simp only [List.set_cons_zero])
        clear hk1
        refine wpAnyH_take (i := 4) (oi := { dst := some 38, op := Op.binOp BinOp.add 9 (Operand.tmp 37) (Operand.const (Value.string { data := #[32] })) 9, type := 9, pos := "text.go:123", after := #[{ on := 3, ground := Ground.data }], guard := none }) (v := ?v4k1_6) rfl (by kernel_rfl) (by kernel_rfl) (by kernel_rfl) (fun _ _ _ h => h) (Or.inl ⟨by rfl, ?y4k1_6⟩) (by assumption) ?r4k1_6
        case y4k1_6 => (intro w hSw; obtain ⟨-, s1, s2⟩ := hSw; go_simp; (try with_reducible rfl))
        (try simp only [Act.put]); (try simp only [List.setIfInBounds_toArray]); (try simp only [List.set_cons_succ]); (try simp only [List.set_cons_zero])
        refine wpAnyH_ready (rs := [7]) (by kernel_rfl) (by simp) ?_
        refine AllReadyH.cons (o := { dst := some 41, op := Op.call { callee := Callee.value (Operand.func 27), args := #[Operand.tmp 40], argTypes := #[9] }, type := 9, pos := "text.go:123", after := #[{ on := 6, ground := Ground.data }, { on := 3, ground := Ground.chain }], guard := none }) rfl (fun K hK => ?_) AllReadyH.nil
        go_simp
        go_at_call 27
        refine Calls.mono (HQ.out tx htx _) ?_
        rintro e' v2 ⟨rfl, hk2⟩
        go_wp2_with fail
        refine hK.out _ _ (HSk.out _ _ hHeld hk2) (fun hHeld => ?_)
        clear hK K
        (try simp only [Act.put]); (try simp only [List.setIfInBounds_toArray]); (try simp only [List.set_cons_succ]); (try simp only [List.set_cons_zero])
        clear hk2
        refine wpAnyH_take (i := 8) (oi := { dst := some 42, op := Op.binOp BinOp.add 9 (Operand.tmp 38) (Operand.tmp 41) 9, type := 9, pos := "text.go:123", after := #[{ on := 4, ground := Ground.data }, { on := 7, ground := Ground.data }], guard := none }) (v := ?v8k1_7) rfl (by kernel_rfl) (by kernel_rfl) (by kernel_rfl) (fun _ _ _ h => h) (Or.inl ⟨by rfl, ?y8k1_7⟩) (by assumption) ?r8k1_7
        case y8k1_7 => (intro w hSw; obtain ⟨-, s1, s2⟩ := hSw; go_simp; (try with_reducible rfl))
        (try simp only [Act.put]); (try simp only [List.setIfInBounds_toArray]); (try simp only [List.set_cons_succ]); (try simp only [List.set_cons_zero])
        refine wpAnyH_take (i := 9) (oi := { dst := some 43, op := Op.binOp BinOp.add 9 (Operand.tmp 34) (Operand.tmp 42) 9, type := 9, pos := "text.go:123", after := #[{ on := 0, ground := Ground.data }, { on := 8, ground := Ground.data }], guard := none }) (v := ?v9k1_8) rfl (by kernel_rfl) (by kernel_rfl) (by kernel_rfl) (fun _ _ _ h => h) (Or.inl ⟨by rfl, ?y9k1_8⟩) (by assumption) ?r9k1_8
        case y9k1_8 => (intro w hSw; obtain ⟨-, s1, s2⟩ := hSw; go_simp; (try with_reducible rfl))
        (try simp only [Act.put]); (try simp only [List.setIfInBounds_toArray]); (try simp only [List.set_cons_succ]); (try simp only [List.set_cons_zero])
        refine wpAnyH_take (i := 10) (oi := { dst := some 4, op := Op.assign (Operand.tmp 43), type := 9, pos := "text.go:123", after := #[{ on := 9, ground := Ground.data }, { on := 7, ground := Ground.chain }, { on := 0, ground := Ground.phase }, { on := 1, ground := Ground.phase }, { on := 2, ground := Ground.phase }, { on := 3, ground := Ground.phase }, { on := 4, ground := Ground.phase }, { on := 5, ground := Ground.phase }, { on := 6, ground := Ground.phase }, { on := 7, ground := Ground.phase }, { on := 8, ground := Ground.phase }, { on := 9, ground := Ground.phase }], guard := none }) (v := ?v10k1_9) rfl (by kernel_rfl) (by kernel_rfl) (by kernel_rfl) (fun _ _ _ h => h) (Or.inl ⟨by rfl, ?y10k1_9⟩) (by assumption) ?r10k1_9
        case y10k1_9 => (intro w hSw; obtain ⟨-, s1, s2⟩ := hSw; go_simp; (try with_reducible rfl))
        (try simp only [Act.put]); (try simp only [List.setIfInBounds_toArray]); (try simp only [List.set_cons_succ]); (try simp only [List.set_cons_zero])
        refine wpAnyH_done (by kernel_rfl) ?_ _
        have HG2 := hidM hHeld.1.out
        clear hHeld HIN HSk
        go_wp2_with fail
        go_roundw
        case rel => exact ⟨k + 1, _, by omega, HNs.out, by simp, rfl, HEq.out, HG2.out⟩
        case measure => simp [intOf]; omega
      · have h0I : ¬ (0 : Int) < (k : Int) := by omega
        obtain rfl : k = 0 := by omega
        have hjt : ok = jt := by rw [HK.out.1]; exact prB_nil jt
        by_cases hje : ok = ⟨#[]⟩
        · have HEq : Hid (ok ++ (⟨#[124, 32]⟩ : ByteArray) ++ (qtB ky ++ (⟨#[32]⟩ : ByteArray) ++ qtB tx) = prB jt ((ns.take (0 + 1)).map ntB)) := by
            show _ = _
            rw [HTK.out, ← hjt]
            exact (prB_one0 ok _ hje).symm
          have HNs : Hid ((ok ++ (⟨#[124, 32]⟩ : ByteArray) ++ (qtB ky ++ (⟨#[32]⟩ : ByteArray) ++ qtB tx)).size ≤ 2000000) := by show _ ≤ _; rw [HEq.out, HTK.out]; exact hnew
          have m3 := add_run ok ⟨#[124, 32]⟩ (by show ok.size + 2 ≤ _; omega)
          have HM5 : Hid ((ok ++ (⟨#[124, 32]⟩ : ByteArray)).size + (qtB ky ++ (⟨#[32]⟩ : ByteArray) ++ qtB tx).size ≤ 1000000000000) := by
            show _ ≤ _
            rw [ByteArray.size_append, s2]; have : (⟨#[124, 32]⟩ : ByteArray).size = 2 := rfl; omega
          have hne : ok.toList.isEmpty = true := by rw [hje, ByteArray.toList_eq]; rfl
          clear hnew z1 z2 s1 s2 HK HTK hje hjt
          simp only [Nat.zero_mul, Nat.add_zero] at g0 g1
          go_wp2_with fail
          try rw [← hB]
          clear hB
          generalize wr.alloc (.cells #[.string ky, .string tx] 61) = W0 at *
          have m5 := add_run (ok ++ (⟨#[124, 32]⟩ : ByteArray)) (qtB ky ++ (⟨#[32]⟩ : ByteArray) ++ qtB tx) (HM5.out)
          refine wp_region_held_drew (S := fun w' => Hid (Gr W w') ∧ w'.cell? ⟨B, 0, none⟩ = some (.string ky) ∧ w'.cell? ⟨B, 1, none⟩ = some (.string tx)) (by kernel_rfl) (HIN.out) (fun hHeld => ?_)
          refine wpAnyH_take (i := 0) (oi := { dst := some 34, op := Op.move (Operand.tmp 4), type := 9, pos := "text.go:123", after := #[], guard := none }) (v := ?v0k2_1) rfl (by kernel_rfl) (by kernel_rfl) (by kernel_rfl) (fun _ _ _ h => h) (Or.inl ⟨by rfl, ?y0k2_1⟩) (by assumption) ?r0k2_1
          case y0k2_1 => (intro w hSw; obtain ⟨-, s1, s2⟩ := hSw; go_simp; (try with_reducible rfl))
          (try simp only [Act.put]); (try simp only [List.setIfInBounds_toArray]); (try simp only [List.set_cons_succ]); (try simp only [List.set_cons_zero])
          refine wpAnyH_take (i := 1) (oi := { dst := some 35, op := Op.fieldAddr 61 (Operand.tmp 6) 0, type := 0, pos := "text.go:123", after := #[], guard := none }) (v := ?v1k2_2) rfl (by kernel_rfl) (by kernel_rfl) (by kernel_rfl) (fun _ _ _ h => h) (Or.inl ⟨by rfl, ?y1k2_2⟩) (by assumption) ?r1k2_2
          case y1k2_2 => (intro w hSw; obtain ⟨-, s1, s2⟩ := hSw; go_simp; (try with_reducible rfl))
          (try simp only [Act.put]); (try simp only [List.setIfInBounds_toArray]); (try simp only [List.set_cons_succ]); (try simp only [List.set_cons_zero])
          refine wpAnyH_take (i := 2) (oi := { dst := some 36, op := Op.load 9 (Operand.tmp 35), type := 9, pos := "text.go:123", after := #[{ on := 1, ground := Ground.data }], guard := none }) (v := ?v2k2_3) rfl (by kernel_rfl) (by kernel_rfl) (by kernel_rfl) (fun _ _ _ h => h) (Or.inl ⟨by rfl, ?y2k2_3⟩) (by assumption) ?r2k2_3
          case y2k2_3 => (intro w hSw; obtain ⟨-, s1, s2⟩ := hSw; go_simp; (try with_reducible rfl))
          (try simp only [Act.put]); (try simp only [List.setIfInBounds_toArray]); (try simp only [List.set_cons_succ]); (try simp only [List.set_cons_zero])
          refine wpAnyH_take (i := 5) (oi := { dst := some 39, op := Op.fieldAddr 61 (Operand.tmp 6) 1, type := 0, pos := "text.go:123", after := #[], guard := none }) (v := ?v5k2_4) rfl (by kernel_rfl) (by kernel_rfl) (by kernel_rfl) (fun _ _ _ h => h) (Or.inl ⟨by rfl, ?y5k2_4⟩) (by assumption) ?r5k2_4
          case y5k2_4 => (intro w hSw; obtain ⟨-, s1, s2⟩ := hSw; go_simp; (try with_reducible rfl))
          (try simp only [Act.put]); (try simp only [List.setIfInBounds_toArray]); (try simp only [List.set_cons_succ]); (try simp only [List.set_cons_zero])
          refine wpAnyH_take (i := 6) (oi := { dst := some 40, op := Op.load 9 (Operand.tmp 39), type := 9, pos := "text.go:123", after := #[{ on := 5, ground := Ground.data }], guard := none }) (v := ?v6k2_5) rfl (by kernel_rfl) (by kernel_rfl) (by kernel_rfl) (fun _ _ _ h => h) (Or.inl ⟨by rfl, ?y6k2_5⟩) (by assumption) ?r6k2_5
          case y6k2_5 => (intro w hSw; obtain ⟨-, s1, s2⟩ := hSw; go_simp; (try with_reducible rfl))
          (try simp only [Act.put]); (try simp only [List.setIfInBounds_toArray]); (try simp only [List.set_cons_succ]); (try simp only [List.set_cons_zero])
          refine wpAnyH_ready (rs := [3]) (by kernel_rfl) (by simp) ?_
          refine AllReadyH.cons (o := { dst := some 37, op := Op.call { callee := Callee.value (Operand.func 27), args := #[Operand.tmp 36], argTypes := #[9] }, type := 9, pos := "text.go:123", after := #[{ on := 2, ground := Ground.data }], guard := none }) rfl (fun K hK => ?_) AllReadyH.nil
          go_simp
          go_at_call 27
          refine Calls.mono (HQ.out ky hky _) ?_
          rintro e' v1 ⟨rfl, hk1⟩
          go_wp2_with fail
          refine hK.out _ _ (HSk.out _ _ hHeld hk1) (fun hHeld => ?_)
          clear hK K
          (try simp only [Act.put]); (try simp only [List.setIfInBounds_toArray]); (try simp only [List.set_cons_succ]); (try simp only [List.set_cons_zero])
          clear hk1
          refine wpAnyH_take (i := 4) (oi := { dst := some 38, op := Op.binOp BinOp.add 9 (Operand.tmp 37) (Operand.const (Value.string { data := #[32] })) 9, type := 9, pos := "text.go:123", after := #[{ on := 3, ground := Ground.data }], guard := none }) (v := ?v4k2_6) rfl (by kernel_rfl) (by kernel_rfl) (by kernel_rfl) (fun _ _ _ h => h) (Or.inl ⟨by rfl, ?y4k2_6⟩) (by assumption) ?r4k2_6
          case y4k2_6 => (intro w hSw; obtain ⟨-, s1, s2⟩ := hSw; go_simp; (try with_reducible rfl))
          (try simp only [Act.put]); (try simp only [List.setIfInBounds_toArray]); (try simp only [List.set_cons_succ]); (try simp only [List.set_cons_zero])
          refine wpAnyH_ready (rs := [7]) (by kernel_rfl) (by simp) ?_
          refine AllReadyH.cons (o := { dst := some 41, op := Op.call { callee := Callee.value (Operand.func 27), args := #[Operand.tmp 40], argTypes := #[9] }, type := 9, pos := "text.go:123", after := #[{ on := 6, ground := Ground.data }, { on := 3, ground := Ground.chain }], guard := none }) rfl (fun K hK => ?_) AllReadyH.nil
          go_simp
          go_at_call 27
          refine Calls.mono (HQ.out tx htx _) ?_
          rintro e' v2 ⟨rfl, hk2⟩
          go_wp2_with fail
          refine hK.out _ _ (HSk.out _ _ hHeld hk2) (fun hHeld => ?_)
          clear hK K
          (try simp only [Act.put]); (try simp only [List.setIfInBounds_toArray]); (try simp only [List.set_cons_succ]); (try simp only [List.set_cons_zero])
          clear hk2
          refine wpAnyH_take (i := 8) (oi := { dst := some 42, op := Op.binOp BinOp.add 9 (Operand.tmp 38) (Operand.tmp 41) 9, type := 9, pos := "text.go:123", after := #[{ on := 4, ground := Ground.data }, { on := 7, ground := Ground.data }], guard := none }) (v := ?v8k2_7) rfl (by kernel_rfl) (by kernel_rfl) (by kernel_rfl) (fun _ _ _ h => h) (Or.inl ⟨by rfl, ?y8k2_7⟩) (by assumption) ?r8k2_7
          case y8k2_7 => (intro w hSw; obtain ⟨-, s1, s2⟩ := hSw; go_simp; (try with_reducible rfl))
          (try simp only [Act.put]); (try simp only [List.setIfInBounds_toArray]); (try simp only [List.set_cons_succ]); (try simp only [List.set_cons_zero])
          refine wpAnyH_take (i := 9) (oi := { dst := some 43, op := Op.binOp BinOp.add 9 (Operand.tmp 34) (Operand.tmp 42) 9, type := 9, pos := "text.go:123", after := #[{ on := 0, ground := Ground.data }, { on := 8, ground := Ground.data }], guard := none }) (v := ?v9k2_8) rfl (by kernel_rfl) (by kernel_rfl) (by kernel_rfl) (fun _ _ _ h => h) (Or.inl ⟨by rfl, ?y9k2_8⟩) (by assumption) ?r9k2_8
          case y9k2_8 => (intro w hSw; obtain ⟨-, s1, s2⟩ := hSw; go_simp; (try with_reducible rfl))
          (try simp only [Act.put]); (try simp only [List.setIfInBounds_toArray]); (try simp only [List.set_cons_succ]); (try simp only [List.set_cons_zero])
          refine wpAnyH_take (i := 10) (oi := { dst := some 4, op := Op.assign (Operand.tmp 43), type := 9, pos := "text.go:123", after := #[{ on := 9, ground := Ground.data }, { on := 7, ground := Ground.chain }, { on := 0, ground := Ground.phase }, { on := 1, ground := Ground.phase }, { on := 2, ground := Ground.phase }, { on := 3, ground := Ground.phase }, { on := 4, ground := Ground.phase }, { on := 5, ground := Ground.phase }, { on := 6, ground := Ground.phase }, { on := 7, ground := Ground.phase }, { on := 8, ground := Ground.phase }, { on := 9, ground := Ground.phase }], guard := none }) (v := ?v10k2_9) rfl (by kernel_rfl) (by kernel_rfl) (by kernel_rfl) (fun _ _ _ h => h) (Or.inl ⟨by rfl, ?y10k2_9⟩) (by assumption) ?r10k2_9
          case y10k2_9 => (intro w hSw; obtain ⟨-, s1, s2⟩ := hSw; go_simp; (try with_reducible rfl))
          (try simp only [Act.put]); (try simp only [List.setIfInBounds_toArray]); (try simp only [List.set_cons_succ]); (try simp only [List.set_cons_zero])
          refine wpAnyH_done (by kernel_rfl) ?_ _
          have HG2 := hidM hHeld.1.out
          clear hHeld HIN HSk
          go_wp2_with fail
          go_roundw
          case rel => exact ⟨0 + 1, _, by omega, HNs.out, by simp, rfl, HEq.out, HG2.out⟩
          case measure => simp [intOf]; omega
        · have HEq : Hid (ok ++ (⟨#[32, 124, 32]⟩ : ByteArray) ++ (qtB ky ++ (⟨#[32]⟩ : ByteArray) ++ qtB tx) = prB jt ((ns.take (0 + 1)).map ntB)) := by
            show _ = _
            rw [HTK.out, ← hjt]
            exact (prB_one1 ok _ hje).symm
          have HNs : Hid ((ok ++ (⟨#[32, 124, 32]⟩ : ByteArray) ++ (qtB ky ++ (⟨#[32]⟩ : ByteArray) ++ qtB tx)).size ≤ 2000000) := by show _ ≤ _; rw [HEq.out, HTK.out]; exact hnew
          have m3 := add_run ok ⟨#[32, 124, 32]⟩ (by show ok.size + 3 ≤ _; omega)
          have HM5 : Hid ((ok ++ (⟨#[32, 124, 32]⟩ : ByteArray)).size + (qtB ky ++ (⟨#[32]⟩ : ByteArray) ++ qtB tx).size ≤ 1000000000000) := by
            show _ ≤ _
            rw [ByteArray.size_append, s2]; have : (⟨#[32, 124, 32]⟩ : ByteArray).size = 3 := rfl; omega
          have hne : ok.toList.isEmpty = false := empty_of hje
          clear hnew z1 z2 s1 s2 HK HTK hje hjt
          simp only [Nat.zero_mul, Nat.add_zero] at g0 g1
          go_wp2_with fail
          try rw [← hB]
          clear hB
          generalize wr.alloc (.cells #[.string ky, .string tx] 61) = W0 at *
          have m5 := add_run (ok ++ (⟨#[32, 124, 32]⟩ : ByteArray)) (qtB ky ++ (⟨#[32]⟩ : ByteArray) ++ qtB tx) (HM5.out)
          refine wp_region_held_drew (S := fun w' => Hid (Gr W w') ∧ w'.cell? ⟨B, 0, none⟩ = some (.string ky) ∧ w'.cell? ⟨B, 1, none⟩ = some (.string tx)) (by kernel_rfl) (HIN.out) (fun hHeld => ?_)
          refine wpAnyH_take (i := 0) (oi := { dst := some 34, op := Op.move (Operand.tmp 4), type := 9, pos := "text.go:123", after := #[], guard := none }) (v := ?v0k3_1) rfl (by kernel_rfl) (by kernel_rfl) (by kernel_rfl) (fun _ _ _ h => h) (Or.inl ⟨by rfl, ?y0k3_1⟩) (by assumption) ?r0k3_1
          case y0k3_1 => (intro w hSw; obtain ⟨-, s1, s2⟩ := hSw; go_simp; (try with_reducible rfl))
          (try simp only [Act.put]); (try simp only [List.setIfInBounds_toArray]); (try simp only [List.set_cons_succ]); (try simp only [List.set_cons_zero])
          refine wpAnyH_take (i := 1) (oi := { dst := some 35, op := Op.fieldAddr 61 (Operand.tmp 6) 0, type := 0, pos := "text.go:123", after := #[], guard := none }) (v := ?v1k3_2) rfl (by kernel_rfl) (by kernel_rfl) (by kernel_rfl) (fun _ _ _ h => h) (Or.inl ⟨by rfl, ?y1k3_2⟩) (by assumption) ?r1k3_2
          case y1k3_2 => (intro w hSw; obtain ⟨-, s1, s2⟩ := hSw; go_simp; (try with_reducible rfl))
          (try simp only [Act.put]); (try simp only [List.setIfInBounds_toArray]); (try simp only [List.set_cons_succ]); (try simp only [List.set_cons_zero])
          refine wpAnyH_take (i := 2) (oi := { dst := some 36, op := Op.load 9 (Operand.tmp 35), type := 9, pos := "text.go:123", after := #[{ on := 1, ground := Ground.data }], guard := none }) (v := ?v2k3_3) rfl (by kernel_rfl) (by kernel_rfl) (by kernel_rfl) (fun _ _ _ h => h) (Or.inl ⟨by rfl, ?y2k3_3⟩) (by assumption) ?r2k3_3
          case y2k3_3 => (intro w hSw; obtain ⟨-, s1, s2⟩ := hSw; go_simp; (try with_reducible rfl))
          (try simp only [Act.put]); (try simp only [List.setIfInBounds_toArray]); (try simp only [List.set_cons_succ]); (try simp only [List.set_cons_zero])
          refine wpAnyH_take (i := 5) (oi := { dst := some 39, op := Op.fieldAddr 61 (Operand.tmp 6) 1, type := 0, pos := "text.go:123", after := #[], guard := none }) (v := ?v5k3_4) rfl (by kernel_rfl) (by kernel_rfl) (by kernel_rfl) (fun _ _ _ h => h) (Or.inl ⟨by rfl, ?y5k3_4⟩) (by assumption) ?r5k3_4
          case y5k3_4 => (intro w hSw; obtain ⟨-, s1, s2⟩ := hSw; go_simp; (try with_reducible rfl))
          (try simp only [Act.put]); (try simp only [List.setIfInBounds_toArray]); (try simp only [List.set_cons_succ]); (try simp only [List.set_cons_zero])
          refine wpAnyH_take (i := 6) (oi := { dst := some 40, op := Op.load 9 (Operand.tmp 39), type := 9, pos := "text.go:123", after := #[{ on := 5, ground := Ground.data }], guard := none }) (v := ?v6k3_5) rfl (by kernel_rfl) (by kernel_rfl) (by kernel_rfl) (fun _ _ _ h => h) (Or.inl ⟨by rfl, ?y6k3_5⟩) (by assumption) ?r6k3_5
          case y6k3_5 => (intro w hSw; obtain ⟨-, s1, s2⟩ := hSw; go_simp; (try with_reducible rfl))
          (try simp only [Act.put]); (try simp only [List.setIfInBounds_toArray]); (try simp only [List.set_cons_succ]); (try simp only [List.set_cons_zero])
          refine wpAnyH_ready (rs := [3]) (by kernel_rfl) (by simp) ?_
          refine AllReadyH.cons (o := { dst := some 37, op := Op.call { callee := Callee.value (Operand.func 27), args := #[Operand.tmp 36], argTypes := #[9] }, type := 9, pos := "text.go:123", after := #[{ on := 2, ground := Ground.data }], guard := none }) rfl (fun K hK => ?_) AllReadyH.nil
          go_simp
          go_at_call 27
          refine Calls.mono (HQ.out ky hky _) ?_
          rintro e' v1 ⟨rfl, hk1⟩
          go_wp2_with fail
          refine hK.out _ _ (HSk.out _ _ hHeld hk1) (fun hHeld => ?_)
          clear hK K
          (try simp only [Act.put]); (try simp only [List.setIfInBounds_toArray]); (try simp only [List.set_cons_succ]); (try simp only [List.set_cons_zero])
          clear hk1
          refine wpAnyH_take (i := 4) (oi := { dst := some 38, op := Op.binOp BinOp.add 9 (Operand.tmp 37) (Operand.const (Value.string { data := #[32] })) 9, type := 9, pos := "text.go:123", after := #[{ on := 3, ground := Ground.data }], guard := none }) (v := ?v4k3_6) rfl (by kernel_rfl) (by kernel_rfl) (by kernel_rfl) (fun _ _ _ h => h) (Or.inl ⟨by rfl, ?y4k3_6⟩) (by assumption) ?r4k3_6
          case y4k3_6 => (intro w hSw; obtain ⟨-, s1, s2⟩ := hSw; go_simp; (try with_reducible rfl))
          (try simp only [Act.put]); (try simp only [List.setIfInBounds_toArray]); (try simp only [List.set_cons_succ]); (try simp only [List.set_cons_zero])
          refine wpAnyH_ready (rs := [7]) (by kernel_rfl) (by simp) ?_
          refine AllReadyH.cons (o := { dst := some 41, op := Op.call { callee := Callee.value (Operand.func 27), args := #[Operand.tmp 40], argTypes := #[9] }, type := 9, pos := "text.go:123", after := #[{ on := 6, ground := Ground.data }, { on := 3, ground := Ground.chain }], guard := none }) rfl (fun K hK => ?_) AllReadyH.nil
          go_simp
          go_at_call 27
          refine Calls.mono (HQ.out tx htx _) ?_
          rintro e' v2 ⟨rfl, hk2⟩
          go_wp2_with fail
          refine hK.out _ _ (HSk.out _ _ hHeld hk2) (fun hHeld => ?_)
          clear hK K
          (try simp only [Act.put]); (try simp only [List.setIfInBounds_toArray]); (try simp only [List.set_cons_succ]); (try simp only [List.set_cons_zero])
          clear hk2
          refine wpAnyH_take (i := 8) (oi := { dst := some 42, op := Op.binOp BinOp.add 9 (Operand.tmp 38) (Operand.tmp 41) 9, type := 9, pos := "text.go:123", after := #[{ on := 4, ground := Ground.data }, { on := 7, ground := Ground.data }], guard := none }) (v := ?v8k3_7) rfl (by kernel_rfl) (by kernel_rfl) (by kernel_rfl) (fun _ _ _ h => h) (Or.inl ⟨by rfl, ?y8k3_7⟩) (by assumption) ?r8k3_7
          case y8k3_7 => (intro w hSw; obtain ⟨-, s1, s2⟩ := hSw; go_simp; (try with_reducible rfl))
          (try simp only [Act.put]); (try simp only [List.setIfInBounds_toArray]); (try simp only [List.set_cons_succ]); (try simp only [List.set_cons_zero])
          refine wpAnyH_take (i := 9) (oi := { dst := some 43, op := Op.binOp BinOp.add 9 (Operand.tmp 34) (Operand.tmp 42) 9, type := 9, pos := "text.go:123", after := #[{ on := 0, ground := Ground.data }, { on := 8, ground := Ground.data }], guard := none }) (v := ?v9k3_8) rfl (by kernel_rfl) (by kernel_rfl) (by kernel_rfl) (fun _ _ _ h => h) (Or.inl ⟨by rfl, ?y9k3_8⟩) (by assumption) ?r9k3_8
          case y9k3_8 => (intro w hSw; obtain ⟨-, s1, s2⟩ := hSw; go_simp; (try with_reducible rfl))
          (try simp only [Act.put]); (try simp only [List.setIfInBounds_toArray]); (try simp only [List.set_cons_succ]); (try simp only [List.set_cons_zero])
          refine wpAnyH_take (i := 10) (oi := { dst := some 4, op := Op.assign (Operand.tmp 43), type := 9, pos := "text.go:123", after := #[{ on := 9, ground := Ground.data }, { on := 7, ground := Ground.chain }, { on := 0, ground := Ground.phase }, { on := 1, ground := Ground.phase }, { on := 2, ground := Ground.phase }, { on := 3, ground := Ground.phase }, { on := 4, ground := Ground.phase }, { on := 5, ground := Ground.phase }, { on := 6, ground := Ground.phase }, { on := 7, ground := Ground.phase }, { on := 8, ground := Ground.phase }, { on := 9, ground := Ground.phase }], guard := none }) (v := ?v10k3_9) rfl (by kernel_rfl) (by kernel_rfl) (by kernel_rfl) (fun _ _ _ h => h) (Or.inl ⟨by rfl, ?y10k3_9⟩) (by assumption) ?r10k3_9
          case y10k3_9 => (intro w hSw; obtain ⟨-, s1, s2⟩ := hSw; go_simp; (try with_reducible rfl))
          (try simp only [Act.put]); (try simp only [List.setIfInBounds_toArray]); (try simp only [List.set_cons_succ]); (try simp only [List.set_cons_zero])
          refine wpAnyH_done (by kernel_rfl) ?_ _
          have HG2 := hidM hHeld.1.out
          clear hHeld HIN HSk
          go_wp2_with fail
          go_roundw
          case rel => exact ⟨0 + 1, _, by omega, HNs.out, by simp, rfl, HEq.out, HG2.out⟩
          case measure => simp [intOf]; omega
    · have hkL : k = L := by omega
      subst hkL
      have HEn : Hid (ok = prB jt (ns.map ntB)) := by
        have := HK.out.1
        rw [HLn.out, List.take_length] at this
        exact this
      have HG := hidM HK.out.2
      clear HK HR
      go_wp2_with fail
      refine bodyPost_ret (v := .tuple #[.string ok, .int .i64 0]) ?_ rfl ⟨by rw [← HEn.out], HG.out⟩
      simp [results, Tryd.f8, go_sem]
set_option maxRecDepth 100000 in
set_option maxHeartbeats 2000000 in
theorem printR_false {fo no : Option Addr} {nf cf nn cn : Nat} {er tt : Int} {p : List Nat} {w : World} (he : er ≠ 0) (hl : Tells w 25 (.agg #[.slice fo nf cf, .slice no nn cn]) er p tt) : AnsV 8 #[.agg #[.slice fo nf cf, .slice no nn cn]] (.tuple #[.string ⟨#[]⟩, .int .i64 5]) w := by
  intro W g
  have HL : Hid (∀ W', Gr W W' → Calls Tryd.prog 25 #[.agg #[.slice fo nf cf, .slice no nn cn]] W' fun e w' => ∃ vo vn vc, e = .returned (.agg #[.int .i64 er, .slice vo vn vc, .int .i64 tt]) ∧ Gr W' w') := fun W' g' => by
    refine Calls.mono (hl W' (g.trans g' (fun _ _ h => h))) ?_
    rintro e w' ⟨vo, vc, rfl, hg, -⟩
    exact ⟨vo, _, vc, rfl, hg⟩
  have hne : (er != 0) = true := by simpa using he
  have hbe := beqZ he
  clear hl g he
  have hfl : ∀ vo vn vc w, (Instr.field 41 (.agg #[.int .i64 er, .slice vo vn vc, .int .i64 tt]) 0).run Tryd.prog w = .ok (.int .i64 er) w := fun vo vn vc w => by kernel_rfl
  go_enter Tryd.func8, Tryd.ntmps8
  go_wp2_with (go_at_call 25; refine Hid.out ?_)
  unfold Hid
  refine Calls.mono (HL.out _ (gr_alloc W _)) ?_
  rintro e W1 ⟨vo, vn, vc, rfl, hg1⟩
  have HG := hidM ((gr_alloc W _).trans hg1 (fun _ _ h => h))
  clear hg1
  go_wp2_with fail
  refine bodyPost_ret (v := .tuple #[.string ⟨#[]⟩, .int .i64 5]) ?_ rfl ⟨rfl, HG.out⟩
  simp [results, Tryd.f8, go_sem]
set_option maxRecDepth 100000 in
set_option maxHeartbeats 2000000 in
theorem printFieldR_any {nm t : ByteArray} {nu z : Bool} {k d i x : Int} {ao : Option Addr} {na ca : Nat} {w : World}
    (hm : Ans 30 #[.agg #[.string nm, .bool nu, .int .i64 k, .int .i64 d, .int .i64 i, .int .i64 x, .slice ao na ca]] z w)
    (ht : z = true → AnsV 31 #[.agg #[.string nm, .bool nu, .int .i64 k, .int .i64 d, .int .i64 i, .int .i64 x, .slice ao na ca]] (.string t) w) :
    AnsV 10 #[.agg #[.string nm, .bool nu, .int .i64 k, .int .i64 d, .int .i64 i, .int .i64 x, .slice ao na ca]] (.tuple #[.string (if z then t else ⟨#[]⟩), .int .i64 (if z then 0 else 5)]) w := by
  intro W g
  have HM := hidM (hm.gr g)
  unfold Ans at HM
  have HT : Hid (z = true → ∀ W', Gr W W' → Calls Tryd.prog 31 #[.agg #[.string nm, .bool nu, .int .i64 k, .int .i64 d, .int .i64 i, .int .i64 x, .slice ao na ca]] W' fun e w' => e = .returned (.string t) ∧ Gr W' w') := fun h W' g' => ht h W' (g.trans g' (fun _ _ h => h))
  have hbx := World.alloc_heap_new W (.cells #[.string nm, .bool nu, .int .i64 k, .int .i64 d, .int .i64 i, .int .i64 x, .slice ao na ca] 35)
  have HX := hidM hbx
  clear hm ht g hbx
  go_enter Tryd.func10, Tryd.ntmps10
  go_wp2_with (go_at_call 30; refine Hid.out ?_)
  unfold Hid
  refine Calls.mono (HM.out _ (gr_alloc W _)) ?_
  rintro e W1 ⟨rfl, hg1⟩
  have x1 := (hg1.block _ (lt_of_heap HX.out) (fun h => h)).trans HX.out
  obtain ⟨y0, y1, y2, y3, y4, y5, y6⟩ := cell7 x1
  have HG := hidM ((gr_alloc W _).trans hg1 (fun _ _ h => h))
  clear hg1 x1 HX HM
  cases z with
  | true =>
    go_wp2_with (go_at_call 31; refine Hid.out ?_)
    unfold Hid
    refine Calls.mono (HT.out (by trivial) _ HG.out) ?_
    rintro e W2 ⟨rfl, hg2⟩
    have HG2 := hidM (HG.out.trans hg2 (fun _ _ h => h))
    clear hg2
    go_wp2_with fail
    refine bodyPost_ret (v := .tuple #[.string t, .int .i64 0]) ?_ rfl ⟨rfl, HG2.out⟩
    simp [results, Tryd.f10, go_sem]
  | false =>
    go_wp2_with fail
    refine bodyPost_ret (v := .tuple #[.string ⟨#[]⟩, .int .i64 5]) ?_ rfl ⟨rfl, HG.out⟩
    simp [results, Tryd.f10, go_sem]
end Go.Proofs.YtfepbpibhcfjdaaDoor.Kit
