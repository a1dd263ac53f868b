import Derived.Test.YtfoifmacobldbaaGreatDoorTM
import Derived.Test.YtfoifmacobldbaaGreatDoorRX
set_option maxRecDepth 100000
set_option maxHeartbeats 4000000
namespace Go.Proofs.YtfoifmacobldbaaGreatDoor.Kit
open Go.RowKit Go.Shelf Go.Deep
set_option linter.unusedVariables false
set_option linter.unusedSimpArgs false
/-! ### escape 122 -/
def LeA (w : World) (o : Option (List UInt8 × Nat)) (e : Ending) (w' : World) : Prop := (match o with
  | some (l, k) => e = .returned (.tuple #[.string ⟨l.toArray⟩, .int .i64 (k : Int)])
  | none => e = .returned (.tuple #[.string ⟨#[]⟩, .int .i64 0])) ∧ Gr w w'
theorem alloc_at (w : World) (o : Obj) : (w.alloc o).heap[w.heap.size]? = some o := by
  show (w.heap.push o)[w.heap.size]? = some o
  simp
theorem conv1 (v : World) (b : Nat) (c : UInt8) {x : Nat × Nat} (h : v.heap[b]? = some (.cells #[.int .u8 (c.toNat : Int)] 5 x)) : (convert 52 9 (.slice (some ⟨b, 0, none⟩) 1 1)).run Tryz.prog v = .ok (.string ⟨#[c]⟩) v := by
  refine run_convert_bytes_back v 52 9 5 ⟨b, 0, none⟩ 1 [c] Tryz.underlying52 Tryz.underlying5 Tryz.underlying9 fun j hj => ?_
  obtain rfl : j = 0 := by simpa using hj
  show v.cell? ⟨b, 0, none⟩ = _
  simp [World.cell?, h]
theorem escape122 (t : ByteArray) (hs : t.size ≤ 1000000) (w : World) (hT : Tbs w) : Calls Tryz.prog 122 #[.string t] w (LeA w (QE.escR t.data.toList)) := by
  have HM := hidM (meant144 t hs w hT)
  rw [escR_P]
  generalize meantP t.data.toList = c at *
  have HP : Hid (∀ W, Calls Tryz.prog 81 #[.int .u8 (c.toNat : Int)] W fun e w' => e = .returned (.bool (QE.plainB c)) ∧ w' = W) := fun W => plain81 c W
  have H82 : Hid (∀ W, Calls Tryz.prog 82 #[.int .u8 (c.toNat : Int)] W fun e w' => e = .returned (.string ⟨(QE.escaped c).toArray⟩) ∧ Gr W w') := fun W => escaped82 c W
  have hel := escaped_len c
  have hez : (⟨(QE.escaped c).toArray⟩ : ByteArray).size = (QE.escaped c).length := ba_len _
  have HX : Hid (∀ W, Calls Tryz.prog 121 #[.string t, .string ⟨(QE.escaped c).toArray⟩] W fun e w' => e = .returned (.bool ((QE.escaped c).isPrefixOf t.data.toList)) ∧ w' = W) := fun W => prefix121 t _ hs (by omega) W
  generalize QE.plainB c = pb at *
  generalize (QE.escaped c).isPrefixOf t.data.toList = hb at *
  cases pb with
  | true =>
    rw [if_neg (fun x => by cases x.1)]
    go_enter Tryz.func122, Tryz.ntmps122
    go_wp2_with (first
      | (go_at_call 144; refine HM.out.mono ?_; rintro e w1 ⟨rfl, hg⟩; have HG := hidM hg; clear hg; simp only [])
      | (go_at_call 81; refine (HP.out _).mono ?_; rintro e w2 ⟨rfl, hw⟩; replace hw := hw.symm; subst hw; simp only []))
    go_ret2
    exact ⟨rfl, HG.out⟩
  | false =>
  cases hb with
  | false =>
    rw [if_neg (fun x => by cases x.2)]
    go_enter Tryz.func122, Tryz.ntmps122
    go_wp2_with (first
      | (go_at_call 144; refine HM.out.mono ?_; rintro e w1 ⟨rfl, hg⟩; have HG := hidM hg; clear hg; simp only [])
      | (go_at_call 81; refine (HP.out _).mono ?_; rintro e w2 ⟨rfl, hw⟩; replace hw := hw.symm; subst hw; simp only [])
      | (go_at_call 82; refine (H82.out _).mono ?_; rintro e w3 ⟨rfl, hg3⟩; have HGu := hidM (HG.out.trans hg3 (fun _ _ h => h)); clear hg3; simp only [])
      | (go_at_call 121; refine (HX.out _).mono ?_; rintro e w4 ⟨rfl, hw⟩; replace hw := hw.symm; subst hw; simp only []))
    go_ret2
    exact ⟨rfl, HGu.out⟩
  | true =>
    rw [if_pos ⟨rfl, rfl⟩]
    have hlI : ((⟨(QE.escaped c).toArray⟩ : ByteArray).size : Int) = ((QE.escaped c).length : Int) := by omega
    generalize (⟨(QE.escaped c).toArray⟩ : ByteArray) = es at *
    generalize (QE.escaped c).length = el at *
    clear hel hez hT hs
    go_enter Tryz.func122, Tryz.ntmps122
    go_wp2_with (first
      | (go_at_call 144; refine HM.out.mono ?_; rintro e w1 ⟨rfl, hg⟩; have HG := hidM hg; clear hg; simp only [])
      | (go_at_call 81; refine (HP.out _).mono ?_; rintro e w2 ⟨rfl, hw⟩; replace hw := hw.symm; subst hw; simp only [])
      | (go_at_call 82; refine (H82.out _).mono ?_; rintro e w3 ⟨rfl, hg3⟩; have HGu := hidM (HG.out.trans hg3 (fun _ _ h => h)); clear hg3; simp only [])
      | (go_at_call 121; refine (HX.out _).mono ?_; rintro e w4 ⟨rfl, hw⟩; replace hw := hw.symm; subst hw; simp only []))
    clear HX HP HM
    refine wp_region_held_drew (S := fun w' => Hid (Gr w w')) (by kernel_rfl) (HGu.out.trans gr_drew (fun _ _ h => h)) (fun hHeld => ?_)
    refine wpAnyH_take (i := 0) (oi := { dst := some 16, op := Op.move (Operand.tmp 4), type := 5, pos := "parse.go:161", after := #[], guard := none }) (v := ?v0a1) rfl (by kernel_rfl) (by kernel_rfl) (by kernel_rfl) (fun _ _ _ h => h) (Or.inl ⟨by rfl, ?y0a1⟩) (by assumption) ?r0a1
    case y0a1 => (intro w hSw; go_simp; (try with_reducible rfl))
    (try simp only [Act.put]); (try simp only [List.setIfInBounds_toArray]); (try simp only [List.set_cons_succ]); (try simp only [List.set_cons_zero])
    refine wpAnyH_take (i := 3) (oi := { dst := some 19, op := Op.move (Operand.tmp 4), type := 5, pos := "parse.go:161", after := #[], guard := none }) (v := ?v3a2) rfl (by kernel_rfl) (by kernel_rfl) (by kernel_rfl) (fun _ _ _ h => h) (Or.inl ⟨by rfl, ?y3a2⟩) (by assumption) ?r3a2
    case y3a2 => (intro w hSw; go_simp; (try with_reducible rfl))
    (try simp only [Act.put]); (try simp only [List.setIfInBounds_toArray]); (try simp only [List.set_cons_succ]); (try simp only [List.set_cons_zero])
    refine wpAnyH_ready (rs := [1, 4]) (by kernel_rfl) (by simp) ?_
    refine AllReadyH.cons (o := { dst := some 17, op := Op.buildSlice 52 1 #[(0, Operand.tmp 16)], type := 52, pos := "parse.go:161", after := #[{ on := 0, ground := Ground.data }], guard := none }) rfl (fun Kc hK => ?_) (AllReadyH.cons (o := { dst := some 20, op := Op.call { callee := Callee.value (Operand.func 82), args := #[Operand.tmp 19], argTypes := #[5] }, type := 9, pos := "parse.go:161", after := #[{ on := 3, ground := Ground.data }], guard := none }) rfl (fun Kc hK => ?_) AllReadyH.nil)
    · go_simp
      refine hK.out _ _ (HGu.out.trans ((gr_alloc _ _).trans gr_drew (fun _ _ h => h)) (fun _ _ h => h)) (fun hHeld => ?_)
      clear hK Kc
      (try simp only [Act.put]); (try simp only [List.setIfInBounds_toArray]); (try simp only [List.set_cons_succ]); (try simp only [List.set_cons_zero])
      generalize hV : (w3.alloc (Obj.cells #[Value.int IntKind.u8 (c.toNat : Int)] 5)).drew = V at *
      have hb : V.heap[w3.heap.size]? = some (.cells #[.int .u8 (c.toNat : Int)] 5 (0, 0)) := by rw [← hV]; exact alloc_at _ _
      have hlt : w3.heap.size < V.heap.size := (Array.getElem?_eq_some_iff.1 hb).1
      clear hV
      refine wpAnyH_ready (rs := [2, 4]) (by kernel_rfl) (by simp) ?_
      refine AllReadyH.cons (o := { dst := some 18, op := Op.convert 52 9 (Operand.tmp 17), type := 9, pos := "parse.go:161", after := #[{ on := 1, ground := Ground.data }], guard := none }) rfl (fun Kc hK => ?_) (AllReadyH.cons (o := { dst := some 20, op := Op.call { callee := Callee.value (Operand.func 82), args := #[Operand.tmp 19], argTypes := #[5] }, type := 9, pos := "parse.go:161", after := #[{ on := 3, ground := Ground.data }], guard := none }) rfl (fun Kc hK => ?_) AllReadyH.nil)
      · have hcv := conv1 V w3.heap.size c hb
        go_simp
        refine hK.out _ _ hHeld.out (fun hHeld => ?_)
        clear hK Kc hcv
        (try simp only [Act.put]); (try simp only [List.setIfInBounds_toArray]); (try simp only [List.set_cons_succ]); (try simp only [List.set_cons_zero])
        refine wpAnyH_ready (rs := [4]) (by kernel_rfl) (by simp) ?_
        refine AllReadyH.cons (o := { dst := some 20, op := Op.call { callee := Callee.value (Operand.func 82), args := #[Operand.tmp 19], argTypes := #[5] }, type := 9, pos := "parse.go:161", after := #[{ on := 3, ground := Ground.data }], guard := none }) rfl (fun Kc hK => ?_) AllReadyH.nil
        go_simp
        go_at_call 82
        refine Calls.mono (H82.out _) ?_
        rintro e' v ⟨rfl, hgv⟩
        have HGv := hidM hgv
        clear hgv
        go_wp2_with fail
        refine hK.out _ _ (hHeld.out.trans HGv.out (fun _ _ h => h)) (fun hHeld => ?_)
        clear hK Kc
        (try simp only [Act.put]); (try simp only [List.setIfInBounds_toArray]); (try simp only [List.set_cons_succ]); (try simp only [List.set_cons_zero])
        refine wpAnyH_take (i := 5) (oi := { dst := some 21, op := Op.call { callee := Callee.builtin Builtin.len, args := #[Operand.tmp 20], argTypes := #[9] }, type := 3, pos := "parse.go:161", after := #[{ on := 4, ground := Ground.data }], guard := none }) (v := ?v5b1) rfl (by kernel_rfl) (by kernel_rfl) (by kernel_rfl) (fun _ _ _ h => h) (Or.inl ⟨by rfl, ?y5b1⟩) (by assumption) ?r5b1
        case y5b1 => (intro w hSw; go_simp; (try with_reducible rfl))
        (try simp only [Act.put]); (try simp only [List.setIfInBounds_toArray]); (try simp only [List.set_cons_succ]); (try simp only [List.set_cons_zero])
        refine wpAnyH_take (i := 6) (oi := { dst := some 2, op := Op.assign (Operand.tmp 18), type := 9, pos := "parse.go:161", after := #[{ on := 2, ground := Ground.data }, { on := 4, ground := Ground.chain }, { on := 0, ground := Ground.phase }, { on := 1, ground := Ground.phase }, { on := 2, ground := Ground.phase }, { on := 3, ground := Ground.textOnly Departure.lateStores }, { on := 4, ground := Ground.textOnly Departure.lateStoresUnsure }, { on := 5, ground := Ground.textOnly Departure.lateStoresUnsure }], guard := none }) (v := ?v6b2) rfl (by kernel_rfl) (by kernel_rfl) (by kernel_rfl) (fun _ _ _ h => h) (Or.inl ⟨by rfl, ?y6b2⟩) (by assumption) ?r6b2
        case y6b2 => (intro w hSw; go_simp; (try with_reducible rfl))
        (try simp only [Act.put]); (try simp only [List.setIfInBounds_toArray]); (try simp only [List.set_cons_succ]); (try simp only [List.set_cons_zero])
        refine wpAnyH_take (i := 7) (oi := { dst := some 3, op := Op.assign (Operand.tmp 21), type := 3, pos := "parse.go:161", after := #[{ on := 5, ground := Ground.data }, { on := 6, ground := Ground.chain }, { on := 0, ground := Ground.phase }, { on := 1, ground := Ground.phase }, { on := 2, ground := Ground.phase }, { on := 3, ground := Ground.phase }, { on := 4, ground := Ground.phase }, { on := 5, ground := Ground.phase }, { on := 6, ground := Ground.phase }], guard := none }) (v := ?v7b3) rfl (by kernel_rfl) (by kernel_rfl) (by kernel_rfl) (fun _ _ _ h => h) (Or.inl ⟨by rfl, ?y7b3⟩) (by assumption) ?r7b3
        case y7b3 => (intro w hSw; go_simp; (try with_reducible rfl))
        (try simp only [Act.put]); (try simp only [List.setIfInBounds_toArray]); (try simp only [List.set_cons_succ]); (try simp only [List.set_cons_zero])
        refine wpAnyH_done (by kernel_rfl) ?_ _
        have HZ := hidM hHeld.out
        clear hHeld
        go_wp2
        go_ret2
        exact ⟨rfl, HZ.out⟩
      · go_simp
        go_at_call 82
        refine Calls.mono (H82.out _) ?_
        rintro e' v ⟨rfl, hgv⟩
        have HGv := hidM hgv
        clear hgv
        go_wp2_with fail
        refine hK.out _ _ (hHeld.out.trans HGv.out (fun _ _ h => h)) (fun hHeld => ?_)
        clear hK Kc
        (try simp only [Act.put]); (try simp only [List.setIfInBounds_toArray]); (try simp only [List.set_cons_succ]); (try simp only [List.set_cons_zero])
        refine wpAnyH_take (i := 5) (oi := { dst := some 21, op := Op.call { callee := Callee.builtin Builtin.len, args := #[Operand.tmp 20], argTypes := #[9] }, type := 3, pos := "parse.go:161", after := #[{ on := 4, ground := Ground.data }], guard := none }) (v := ?v5c1) rfl (by kernel_rfl) (by kernel_rfl) (by kernel_rfl) (fun _ _ _ h => h) (Or.inl ⟨by rfl, ?y5c1⟩) (by assumption) ?r5c1
        case y5c1 => (intro w hSw; go_simp; (try with_reducible rfl))
        (try simp only [Act.put]); (try simp only [List.setIfInBounds_toArray]); (try simp only [List.set_cons_succ]); (try simp only [List.set_cons_zero])
        refine wpAnyH_ready (rs := [2]) (by kernel_rfl) (by simp) ?_
        refine AllReadyH.cons (o := { dst := some 18, op := Op.convert 52 9 (Operand.tmp 17), type := 9, pos := "parse.go:161", after := #[{ on := 1, ground := Ground.data }], guard := none }) rfl (fun Kc hK => ?_) AllReadyH.nil
        have hcv := conv1 v w3.heap.size c ((HGv.out.block _ hlt id).trans hb)
        go_simp
        refine hK.out _ _ hHeld.out (fun hHeld => ?_)
        clear hK Kc hcv
        (try simp only [Act.put]); (try simp only [List.setIfInBounds_toArray]); (try simp only [List.set_cons_succ]); (try simp only [List.set_cons_zero])
        refine wpAnyH_take (i := 6) (oi := { dst := some 2, op := Op.assign (Operand.tmp 18), type := 9, pos := "parse.go:161", after := #[{ on := 2, ground := Ground.data }, { on := 4, ground := Ground.chain }, { on := 0, ground := Ground.phase }, { on := 1, ground := Ground.phase }, { on := 2, ground := Ground.phase }, { on := 3, ground := Ground.textOnly Departure.lateStores }, { on := 4, ground := Ground.textOnly Departure.lateStoresUnsure }, { on := 5, ground := Ground.textOnly Departure.lateStoresUnsure }], guard := none }) (v := ?v6d1) rfl (by kernel_rfl) (by kernel_rfl) (by kernel_rfl) (fun _ _ _ h => h) (Or.inl ⟨by rfl, ?y6d1⟩) (by assumption) ?r6d1
        case y6d1 => (intro w hSw; go_simp; (try with_reducible rfl))
        (try simp only [Act.put]); (try simp only [List.setIfInBounds_toArray]); (try simp only [List.set_cons_succ]); (try simp only [List.set_cons_zero])
        refine wpAnyH_take (i := 7) (oi := { dst := some 3, op := Op.assign (Operand.tmp 21), type := 3, pos := "parse.go:161", after := #[{ on := 5, ground := Ground.data }, { on := 6, ground := Ground.chain }, { on := 0, ground := Ground.phase }, { on := 1, ground := Ground.phase }, { on := 2, ground := Ground.phase }, { on := 3, ground := Ground.phase }, { on := 4, ground := Ground.phase }, { on := 5, ground := Ground.phase }, { on := 6, ground := Ground.phase }], guard := none }) (v := ?v7d2) rfl (by kernel_rfl) (by kernel_rfl) (by kernel_rfl) (fun _ _ _ h => h) (Or.inl ⟨by rfl, ?y7d2⟩) (by assumption) ?r7d2
        case y7d2 => (intro w hSw; go_simp; (try with_reducible rfl))
        (try simp only [Act.put]); (try simp only [List.setIfInBounds_toArray]); (try simp only [List.set_cons_succ]); (try simp only [List.set_cons_zero])
        refine wpAnyH_done (by kernel_rfl) ?_ _
        have HZ := hidM hHeld.out
        clear hHeld
        go_wp2
        go_ret2
        exact ⟨rfl, HZ.out⟩
    · go_simp
      go_at_call 82
      refine Calls.mono (H82.out _) ?_
      rintro e' v ⟨rfl, hgv⟩
      have HGv := hidM hgv
      clear hgv
      go_wp2_with fail
      refine hK.out _ _ (hHeld.out.trans HGv.out (fun _ _ h => h)) (fun hHeld => ?_)
      clear hK Kc
      (try simp only [Act.put]); (try simp only [List.setIfInBounds_toArray]); (try simp only [List.set_cons_succ]); (try simp only [List.set_cons_zero])
      refine wpAnyH_take (i := 5) (oi := { dst := some 21, op := Op.call { callee := Callee.builtin Builtin.len, args := #[Operand.tmp 20], argTypes := #[9] }, type := 3, pos := "parse.go:161", after := #[{ on := 4, ground := Ground.data }], guard := none }) (v := ?v5e1) rfl (by kernel_rfl) (by kernel_rfl) (by kernel_rfl) (fun _ _ _ h => h) (Or.inl ⟨by rfl, ?y5e1⟩) (by assumption) ?r5e1
      case y5e1 => (intro w hSw; go_simp; (try with_reducible rfl))
      (try simp only [Act.put]); (try simp only [List.setIfInBounds_toArray]); (try simp only [List.set_cons_succ]); (try simp only [List.set_cons_zero])
      refine wpAnyH_ready (rs := [1]) (by kernel_rfl) (by simp) ?_
      refine AllReadyH.cons (o := { dst := some 17, op := Op.buildSlice 52 1 #[(0, Operand.tmp 16)], type := 52, pos := "parse.go:161", after := #[{ on := 0, ground := Ground.data }], guard := none }) rfl (fun Kc hK => ?_) AllReadyH.nil
      go_simp
      refine hK.out _ _ (hHeld.out.trans (gr_alloc _ _) (fun _ _ h => h)) (fun hHeld => ?_)
      clear hK Kc
      (try simp only [Act.put]); (try simp only [List.setIfInBounds_toArray]); (try simp only [List.set_cons_succ]); (try simp only [List.set_cons_zero])
      generalize hV : v.alloc (Obj.cells #[Value.int IntKind.u8 (c.toNat : Int)] 5) = V at *
      have hb : V.heap[v.heap.size]? = some (.cells #[.int .u8 (c.toNat : Int)] 5 (0, 0)) := by rw [← hV]; exact alloc_at _ _
      have hlt : v.heap.size < V.heap.size := (Array.getElem?_eq_some_iff.1 hb).1
      clear hV
      refine wpAnyH_ready (rs := [2]) (by kernel_rfl) (by simp) ?_
      refine AllReadyH.cons (o := { dst := some 18, op := Op.convert 52 9 (Operand.tmp 17), type := 9, pos := "parse.go:161", after := #[{ on := 1, ground := Ground.data }], guard := none }) rfl (fun Kc hK => ?_) AllReadyH.nil
      have hcv := conv1 V v.heap.size c hb
      go_simp
      refine hK.out _ _ hHeld.out (fun hHeld => ?_)
      clear hK Kc hcv
      (try simp only [Act.put]); (try simp only [List.setIfInBounds_toArray]); (try simp only [List.set_cons_succ]); (try simp only [List.set_cons_zero])
      refine wpAnyH_take (i := 6) (oi := { dst := some 2, op := Op.assign (Operand.tmp 18), type := 9, pos := "parse.go:161", after := #[{ on := 2, ground := Ground.data }, { on := 4, ground := Ground.chain }, { on := 0, ground := Ground.phase }, { on := 1, ground := Ground.phase }, { on := 2, ground := Ground.phase }, { on := 3, ground := Ground.textOnly Departure.lateStores }, { on := 4, ground := Ground.textOnly Departure.lateStoresUnsure }, { on := 5, ground := Ground.textOnly Departure.lateStoresUnsure }], guard := none }) (v := ?v6f1) rfl (by kernel_rfl) (by kernel_rfl) (by kernel_rfl) (fun _ _ _ h => h) (Or.inl ⟨by rfl, ?y6f1⟩) (by assumption) ?r6f1
      case y6f1 => (intro w hSw; go_simp; (try with_reducible rfl))
      (try simp only [Act.put]); (try simp only [List.setIfInBounds_toArray]); (try simp only [List.set_cons_succ]); (try simp only [List.set_cons_zero])
      refine wpAnyH_take (i := 7) (oi := { dst := some 3, op := Op.assign (Operand.tmp 21), type := 3, pos := "parse.go:161", after := #[{ on := 5, ground := Ground.data }, { on := 6, ground := Ground.chain }, { on := 0, ground := Ground.phase }, { on := 1, ground := Ground.phase }, { on := 2, ground := Ground.phase }, { on := 3, ground := Ground.phase }, { on := 4, ground := Ground.phase }, { on := 5, ground := Ground.phase }, { on := 6, ground := Ground.phase }], guard := none }) (v := ?v7f2) rfl (by kernel_rfl) (by kernel_rfl) (by kernel_rfl) (fun _ _ _ h => h) (Or.inl ⟨by rfl, ?y7f2⟩) (by assumption) ?r7f2
      case y7f2 => (intro w hSw; go_simp; (try with_reducible rfl))
      (try simp only [Act.put]); (try simp only [List.setIfInBounds_toArray]); (try simp only [List.set_cons_succ]); (try simp only [List.set_cons_zero])
      refine wpAnyH_done (by kernel_rfl) ?_ _
      have HZ := hidM hHeld.out
      clear hHeld
      go_wp2
      go_ret2
      exact ⟨rfl, HZ.out⟩
/-! ### letter 100 -/
theorem dec_rn (t : ByteArray) (c : UInt8) (r : List UInt8) (hl : t.data.toList = c :: r) :
    (QE.rn (c :: r) = none ∧ Lib.decodeGo t = (65533, 1)) ∨ ∃ k, QE.rn (c :: r) = some k ∧ (Lib.decodeGo t).2 = k ∧ ¬ (Lib.decodeGo t = (65533, 1)) := by
  have hz : t.size ≠ 0 := by
    have := sz_list t
    rw [hl] at this
    simp at this
    omega
  have hd : Lib.decodeGo t = Lib.decodeL (c :: r) := by
    unfold Lib.decodeGo
    rw [if_neg hz, ← hl]
    unfold Lib.decodeL
    rw [QF.bytes_eq t]
  rw [hd, Lib.decodeL_N]
  unfold QE.rn
  by_cases h : ((c :: r).getD 0 0).toNat < 128
  · rw [if_pos h]
    refine .inr ⟨1, rfl, ?_⟩
    unfold Lib.decodeN
    rw [if_pos (by omega)]
    refine ⟨rfl, fun e => ?_⟩
    have := (Prod.ext_iff.1 e).1
    simp only at this
    omega
  · rw [if_neg h]
    rcases Lib.check_decode (c :: r).length ((c :: r).getD 0 0).toNat ((c :: r).getD 1 0).toNat ((c :: r).getD 2 0).toNat ((c :: r).getD 3 0).toNat (by simp) (by omega) (UInt8.toNat_lt _) (UInt8.toNat_lt _) (UInt8.toNat_lt _) (UInt8.toNat_lt _) with ⟨hc, hd⟩ | ⟨k, hk, hc, hd⟩
    · exact .inl ⟨hc, hd⟩
    · refine .inr ⟨k, hc, hd, fun e => ?_⟩
      rw [e] at hd
      simp at hd
      omega
theorem slice_to (t : ByteArray) (M : Nat) (h2 : M ≤ t.size) : ∀ w, (Instr.slice 9 (.string t) none (some (.int .i64 (M : Int))) none).run Tryz.prog w = .ok (.string (t.extract 0 M)) w := by
  intro w
  have a2 : (M : Int) ≤ (t.size : Int) := by omega
  have a3 : (0 : Int) ≤ (M : Int) := by omega
  clear h2
  go_simp
theorem letter100 (t : ByteArray) (hs : t.size ≤ 1000000) (w : World) (hT : Tbs w) (hU : Lib.Utf8Tabs 0 1 w) : Calls Tryz.prog 100 #[.string t] w (LeA w (QE.letterR t.data.toList)) := by
  cases hl : t.data.toList with
  | nil =>
    have ht : (t.toList == []) = true := by rw [ByteArray.toList_eq, hl]; rfl
    show Calls Tryz.prog 100 #[.string t] w (LeA w none)
    clear hl hT hU
    go_enter Tryz.func100, Tryz.ntmps100
    go_wp2_with fail
    go_ret2
    exact ⟨rfl, Keeps.refl _ _⟩
  | cons c r =>
    have ht : (t.toList == []) = false := by rw [ByteArray.toList_eq, hl]; rfl
    have hz : 0 < t.size := by
      have := sz_list t
      rw [hl] at this
      simp at this
      omega
    have hc : (t[0]'hz) = c := by
      have := drop_at t 0 hz
      rw [hl] at this
      simp at this
      exact this.symm
    have hix : ∀ w, (Instr.index 9 (.string t) (.int .i64 0)).run Tryz.prog w = .ok (.int .u8 (c.toNat : Int)) w := fun w => by
      have := index_str t 0 hz w
      rw [hc] at this
      exact this
    have HE := hidM (escape122 t hs w hT)
    have HD := hidM (Tryz.utf8_DecodeRuneInString t w hU)
    have HP : Hid (∀ W, Calls Tryz.prog 81 #[.int .u8 (c.toNat : Int)] W fun e w' => e = .returned (.bool (QE.plainB c)) ∧ w' = W) := fun W => plain81 c W
    by_cases e1 : c = 92
    · show Calls Tryz.prog 100 #[.string t] w (LeA w (if c = 92 then QE.escR (c :: r) else _))
      rw [if_pos e1, ← hl]
      generalize QE.escR t.data.toList = o at *
      have hn : (c.toNat : Int) = 92 := by rw [e1]; rfl
      rw [hn] at hix
      clear hc hl hT hU HD HP hn e1
      cases o with
      | none =>
        replace HE : Hid (Calls Tryz.prog 122 #[.string t] w fun e w' => e = .returned (.tuple #[.string ⟨#[]⟩, .int .i64 0]) ∧ Gr w w') := HE
        go_enter Tryz.func100, Tryz.ntmps100
        go_wp2_with (go_at_call 122; refine HE.out.mono ?_; rintro e w1 ⟨rfl, hg⟩; have HG := hidM hg; clear hg; simp only [])
        go_ret2
        exact ⟨rfl, HG.out⟩
      | some x =>
        obtain ⟨l, k⟩ := x
        replace HE : Hid (Calls Tryz.prog 122 #[.string t] w fun e w' => e = .returned (.tuple #[.string ⟨l.toArray⟩, .int .i64 (k : Int)]) ∧ Gr w w') := HE
        unfold LeA
        simp only
        generalize (⟨l.toArray⟩ : ByteArray) = xx at *
        go_enter Tryz.func100, Tryz.ntmps100
        go_wp2_with (go_at_call 122; refine HE.out.mono ?_; rintro e w1 ⟨rfl, hg⟩; have HG := hidM hg; clear hg; simp only [])
        go_ret2
        exact ⟨rfl, HG.out⟩
    · have hne : ¬ (c.toNat : Int) = 92 := fun e => e1 (UInt8.toNat_inj.1 (by show c.toNat = 92; omega))
      have eL : QE.letterR (c :: r) = match QE.rn (c :: r) with
          | none => none
          | some k => if QE.plainB c = true then some ((c :: r).take k, k) else none := if_neg e1
      rw [eL]
      clear eL HE
      rcases dec_rn t c r hl with ⟨hr, hd⟩ | ⟨k, hr, hk, hbad⟩
      · rw [hr]
        rw [hd] at HD
        replace HD : Hid (Calls Tryz.prog 123 #[.string t] w fun e w' => e = .returned (.tuple #[.int .i32 65533, .int .i64 1]) ∧ Below w.heap.size w w') := HD
        generalize c.toNat = cn at *
        clear hr hd hc hl hT hU HP e1
        show Calls Tryz.prog 100 #[.string t] w (LeA w none)
        go_enter Tryz.func100, Tryz.ntmps100
        go_wp2_with (first | (go_at_call 123; refine HD.out.mono ?_; rintro e w1 ⟨rfl, hg⟩; have HG := hidM (gr_belowW hg); clear hg; simp only []) | (go_at_call 81; refine (HP.out _).mono ?_; rintro e w2 ⟨rfl, hw⟩; replace hw := hw.symm; subst hw; simp only []))
        go_ret2
        exact ⟨rfl, HG.out⟩
      · rw [hr]
        obtain ⟨k1, k2, -⟩ := QE.rn_take (by simp) hr []
        obtain ⟨rr, kk, hdd⟩ : ∃ rr kk, Lib.decodeGo t = (rr, kk) := ⟨_, _, rfl⟩
        rw [hdd] at HD hk hbad
        simp only at hk
        subst hk
        replace HD : Hid (Calls Tryz.prog 123 #[.string t] w fun e w' => e = .returned (.tuple #[.int .i32 (rr : Int), .int .i64 (kk : Int)]) ∧ Below w.heap.size w w') := HD
        have hks : kk ≤ t.size := by rw [← sz_list, hl]; exact k2
        have hsl := slice_to t kk hks
        have hxl : (t.extract 0 kk) = ⟨((c :: r).take kk).toArray⟩ := by
          rw [← hl]
          apply ByteArray.ext
          rw [ByteArray.data_extract]
          apply Array.ext'
          simp [List.extract]
        rw [hxl] at hsl
        show Calls Tryz.prog 100 #[.string t] w (LeA w (if QE.plainB c = true then some ((c :: r).take kk, kk) else none))
        have hbd : (rr : Int) = 65533 → ¬ (kk : Int) = 1 := fun h1 h2 => hbad (by rw [show rr = 65533 by omega, show kk = 1 by omega])
        generalize (c :: r).take kk = tk at *
        generalize QE.plainB c = pb at *
        have h01 : (kk : Int) ≤ (t.size : Int) := by omega
        clear hr hdd hc hl hT hU hbad k1 k2 hxl hks
        cases pb with
        | false =>
          rw [if_neg (by simp)]
          generalize c.toNat = cn at *
          clear e1
          by_cases h6 : (rr : Int) = 65533
          · have h7 := hbd h6
            clear hbd
            go_enter Tryz.func100, Tryz.ntmps100
            go_wp2_with (first | (go_at_call 123; refine HD.out.mono ?_; rintro e w1 ⟨rfl, hg⟩; have HG := hidM (gr_belowW hg); clear hg; simp only []) | (go_at_call 81; refine (HP.out _).mono ?_; rintro e w2 ⟨rfl, hw⟩; replace hw := hw.symm; subst hw; simp only []))
            go_ret2
            exact ⟨rfl, HG.out⟩
          · clear hbd
            go_enter Tryz.func100, Tryz.ntmps100
            go_wp2_with (first | (go_at_call 123; refine HD.out.mono ?_; rintro e w1 ⟨rfl, hg⟩; have HG := hidM (gr_belowW hg); clear hg; simp only []) | (go_at_call 81; refine (HP.out _).mono ?_; rintro e w2 ⟨rfl, hw⟩; replace hw := hw.symm; subst hw; simp only []))
            go_ret2
            exact ⟨rfl, HG.out⟩
        | true =>
          rw [if_pos rfl]
          generalize c.toNat = cn at *
          clear e1
          unfold LeA
          simp only
          generalize (⟨tk.toArray⟩ : ByteArray) = xx at *
          by_cases h6 : (rr : Int) = 65533
          · have h7 := hbd h6
            clear hbd
            go_enter Tryz.func100, Tryz.ntmps100
            go_wp2_with (first | (go_at_call 123; refine HD.out.mono ?_; rintro e w1 ⟨rfl, hg⟩; have HG := hidM (gr_belowW hg); clear hg; simp only []) | (go_at_call 81; refine (HP.out _).mono ?_; rintro e w2 ⟨rfl, hw⟩; replace hw := hw.symm; subst hw; simp only []))
            go_ret2
            exact ⟨rfl, HG.out⟩
          · clear hbd
            go_enter Tryz.func100, Tryz.ntmps100
            go_wp2_with (first | (go_at_call 123; refine HD.out.mono ?_; rintro e w1 ⟨rfl, hg⟩; have HG := hidM (gr_belowW hg); clear hg; simp only []) | (go_at_call 81; refine (HP.out _).mono ?_; rintro e w2 ⟨rfl, hw⟩; replace hw := hw.symm; subst hw; simp only []))
            go_ret2
            exact ⟨rfl, HG.out⟩
end Go.Proofs.YtfoifmacobldbaaGreatDoor.Kit
