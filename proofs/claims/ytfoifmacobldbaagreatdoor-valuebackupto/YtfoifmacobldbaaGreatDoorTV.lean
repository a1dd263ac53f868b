import Derived.Test.YtfoifmacobldbaaGreatDoorTU
set_option maxRecDepth 100000
set_option maxHeartbeats 4000000
namespace Go.Proofs.YtfoifmacobldbaaGreatDoor.Kit
open Go.RowKit Go.Shelf Go.Deep
set_option linter.unusedVariables false
set_option linter.unusedSimpArgs false
attribute [local go_sem] run_store_func
/-! ### choice 69 -/
theorem blk4 {w : World} {b : Nat} {c0 c1 c2 c3 : Value} (h : w.heap[b]? = some (.cells #[c0, c1, c2, c3] 29)) : w.cell? ⟨b, 0, none⟩ = some c0 ∧ w.cell? ⟨b, 1, none⟩ = some c1 ∧ w.cell? ⟨b, 2, none⟩ = some c2 ∧ w.cell? ⟨b, 3, none⟩ = some c3 ∧ w.frozen? ⟨b, 0, none⟩ = false ∧ w.frozen? ⟨b, 1, none⟩ = false ∧ w.frozen? ⟨b, 2, none⟩ = false ∧ w.frozen? ⟨b, 3, none⟩ = false := by
  simp [World.cell?, World.frozen?, h]
theorem Rd.oth {w : World} {p b j : Nat} {s : ByteArray} {a : Nat} {er : Int} (h : Rd w p s a er) (hb : p ≠ b) (v : Value) : Rd (w.setCell ⟨b, j, none⟩ v) p s a er :=
  ⟨(heap_setCell_other w ⟨b, j, none⟩ p v hb).trans h.box, h.len, h.pos⟩
def set4 (w : World) (b : Nat) (v0 v1 v2 v3 : Value) : World := (((w.setCell ⟨b, 0, none⟩ v0).setCell ⟨b, 1, none⟩ v1).setCell ⟨b, 2, none⟩ v2).setCell ⟨b, 3, none⟩ v3
theorem set4_size (w : World) (b : Nat) (v0 v1 v2 v3 : Value) : (set4 w b v0 v1 v2 v3).heap.size = w.heap.size := by simp [set4, World.setCell]
theorem set4_rd {w : World} {p b : Nat} {s : ByteArray} {a : Nat} {er : Int} (h : Rd w p s a er) (hb : p ≠ b) (v0 v1 v2 v3 : Value) : Rd (set4 w b v0 v1 v2 v3) p s a er := (((h.oth hb v0).oth hb v1).oth hb v2).oth hb v3
theorem set4_kp {W w : World} {p b : Nat} (h : Keeps W w (fun z => z = p)) (hb : W.heap.size ≤ b) (v0 v1 v2 v3 : Value) : Keeps W (set4 w b v0 v1 v2 v3) (fun z => z = p) :=
  (((h.setCell (p := ⟨b, 0, none⟩) (fun q => absurd q (by show ¬ b < _; omega)) v0).setCell (p := ⟨b, 1, none⟩) (fun q => absurd q (by show ¬ b < _; omega)) v1).setCell (p := ⟨b, 2, none⟩) (fun q => absurd q (by show ¬ b < _; omega)) v2).setCell (p := ⟨b, 3, none⟩) (fun q => absurd q (by show ¬ b < _; omega)) v3
theorem set4_oth {w : World} {b k : Nat} (hb : k ≠ b) (v0 v1 v2 v3 : Value) : (set4 w b v0 v1 v2 v3).heap[k]? = w.heap[k]? := by
  unfold set4
  rw [heap_setCell_other _ _ _ _ hb, heap_setCell_other _ _ _ _ hb, heap_setCell_other _ _ _ _ hb, heap_setCell_other _ _ _ _ hb]
theorem set4_blk {w : World} {b : Nat} {c0 c1 c2 c3 : Value} (h : w.heap[b]? = some (.cells #[c0, c1, c2, c3] 29)) (v0 v1 v2 v3 : Value) : (set4 w b v0 v1 v2 v3).heap[b]? = some (.cells #[v0, v1, v2, v3] 29) := by
  have h0 := heap_setCell_same w b 0 _ _ v0 h
  have h1 := heap_setCell_same _ b 1 _ _ v1 h0
  have h2 := heap_setCell_same _ b 2 _ _ v2 h1
  have h3 := heap_setCell_same _ b 3 _ _ v3 h2
  unfold set4
  simpa using h3
theorem res4 (w : World) (b : Nat) (v0 v1 v2 v3 : Value) (x : Bool) (tmps : Array Value) (h4 : tmps.getD 4 undef = .pointer (some ⟨b, 0, none⟩)) (h5 : tmps.getD 5 undef = .bool x) (h : w.heap[b]? = some (.cells #[v0, v1, v2, v3] 29)) : (results Tryz.f69 tmps).run Tryz.prog w = .ok (.tuple #[.agg #[v0, v1, v2, v3], .bool x]) w := by
  obtain ⟨q0, q1, q2, q3, -⟩ := blk4 h
  rw [results_cell_tmp rfl, h4, h5]
  go_simp
theorem choice69 (p : Nat) (s : ByteArray) (S : Nat → Prop) (W : World) (a D d : Nat) (er : Int) (r : FT → List UInt8 → Option (VT × List UInt8)) (kids : List FT) (fp : Option Addr) (fc : Nat) (hS : ∀ b, S b → b < W.heap.size ∧ b ≠ p) (hf : RowAt S W (D + 1) fp kids) (hkl : kids.length ≤ fc)
    (hV : ∀ i (h : i < kids.length) go gc, kids[i].kids.length ≤ gc → RowAt S W D go kids[i].kids → ∀ W2 k, Keeps W W2 (fun z => z = p) → Rd W2 p s k er → Calls Tryz.prog 29 #[.pointer (some ⟨p, 0, none⟩), .agg #[.string kids[i].name, .bool kids[i].nul, .int .i64 kids[i].kind, .int .i64 kids[i].width, .int .i64 kids[i].id, .int .i64 kids[i].index, .slice go kids[i].kids.length gc]] W2 (VaA W2 p s er d (r kids[i] (s.data.toList.drop k))))
    (hR : Rd W p s a er) : Calls Tryz.prog 69 #[.pointer (some ⟨p, 0, none⟩), .slice fp kids.length fc] W (VaA W p s er (d + 1) (QB.rdChoice r kids (s.data.toList.drop a))) := by
  obtain ⟨A0, hA0⟩ : ∃ A0, W.alloc (.cells #[.bool false, .int .i64 0, .string ⟨#[]⟩, .slice none 0 0] 29) = A0 := ⟨_, rfl⟩
  have hG0 : Gr W A0 := by rw [← hA0]; exact gr_alloc _ _
  have hsz : A0.heap.size = W.heap.size + 1 := by rw [← hA0]; simp
  have hb0 : A0.heap[W.heap.size]? = some (.cells #[.bool false, .int .i64 0, .string ⟨#[]⟩, .slice none 0 0] 29) := by rw [← hA0]; exact heap_alloc_new W _
  have hR0 := hR.gr hG0
  have HR0 := hidM hR0
  have HLT := hidM hR.lt
  have hsl := hR.len
  have hap := hR.pos
  have HW := hidM (row95_102 p s A0 a er hR0)
  obtain ⟨T, hT⟩ : ∃ T, T = (s.data.toList.drop a).takeWhile QB.nameBt := ⟨_, rfl⟩
  obtain ⟨wd, hwd⟩ : ∃ wd, wd = s.extract a (a + T.length) := ⟨_, rfl⟩
  have hle : a + T.length ≤ s.size := by
    have h := (List.takeWhile_prefix QB.nameBt (l := s.data.toList.drop a)).length_le
    rw [← hT] at h
    simp at h
    omega
  have hws : wd.size = T.length := by
    rw [hwd]; simp [ByteArray.size_extract]; omega
  have hwl : wd.data.toList = T := by
    have h := List.prefix_iff_eq_take.1 (List.takeWhile_prefix QB.nameBt (l := s.data.toList.drop a))
    rw [← hT] at h
    rw [hwd]
    simp [List.extract]
    exact h.symm
  have hdw : (s.data.toList.drop a).dropWhile QB.nameBt = s.data.toList.drop (a + T.length) := by
    have h := List.takeWhile_append_dropWhile (p := QB.nameBt) (l := s.data.toList.drop a)
    rw [← hT] at h
    rw [← List.drop_drop]
    conv => rhs; rw [← h]
    simp
  rw [← hT, ← hwd] at HW
  have hio := idxOf_N kids wd
  rw [hwl] at hio
  have HX : Hid (∀ u1, Gr A0 u1 → Calls Tryz.prog 103 #[.slice fp kids.length fc, .func (.func 104) #[] #[.pointer (some ⟨u1.heap.size, 0, none⟩)]] (u1.alloc (.cells #[.string wd] 9)) fun e w' => e = .returned (.int .i64 (idxOf kids wd)) ∧ Gr (u1.alloc (.cells #[.string wd] 9)) w') := fun u1 hg => by
    have g := (hG0.trans hg (fun _ _ h => h)).trans (gr_alloc u1 (.cells #[.string wd] 9)) (fun _ _ h => h)
    exact index103 S (D + 1) fp fc u1.heap.size kids wd _ (hf.kept fun b h => g.block b (hS b h).1 (fun h => h)) (cell_new u1 _ 9)
  unfold QB.rdChoice
  rw [← hT, hdw]
  have HG0 := hidM hG0
  have HF := hidM hf
  have HS := hidM hS
  have HV := hidM hV
  have HB0 := hidM hb0
  have hwI : (wd.size : Int) = (T.length : Int) := by omega
  obtain ⟨nT, hnT⟩ : ∃ nT, nT = T.length := ⟨_, rfl⟩
  rw [← hnT] at hwI hle ⊢
  have hpn : p ≠ W.heap.size := by have := HLT.out; omega
  have HIK : Hid (∀ i, QB.idxN T kids = some i → i < kids.length) := fun i h => by
    have h2 := idxN_spec wd kids
    rw [hwl, h] at h2
    exact h2.1
  have HKB : Hid (∀ u, Keeps A0 u (fun z => z = p) → u.heap[W.heap.size]? = some (.cells #[.bool false, .int .i64 0, .string ⟨#[]⟩, .slice none 0 0] 29)) := fun u hk => (hk.block _ (lt_of_heap hb0) (fun e => hpn e.symm)).trans hb0
  clear hG0 hf hS hV hR hR0 hb0 hws hwl hdw hwd hnT
  cases hi : QB.idxN T kids with
  | none =>
    rw [hi] at hio
    rw [hio] at HX
    clear hi hT hio
    go_enter Tryz.func69, Tryz.ntmps69
    go_wp2_with (first | (go_at_call 95; refine HW.out.mono ?_; rintro e u1 ⟨rfl, hg1⟩; have HG1 := hidM hg1; clear hg1; simp only []) | (go_at_call 103; refine (HX.out u1 HG1.out).mono ?_; rintro e u3 ⟨rfl, hg3⟩; have HG3 := hidM ((HG1.out.trans (gr_alloc _ _) (fun _ _ h => h)).trans hg3 (fun _ _ h => h)); have HR3 := hidM (HR0.out.gr HG3.out); have d1 := HR3.out.cells.2.1; have y1 := HR3.out.frz.1; have HC3 : Hid (u3.cell? ⟨u1.heap.size, 0, none⟩ = some (.string wd)) := hg3.cell' (cell_new u1 _ 9) (fun h => h); have c66 := HC3.out; clear hg3; simp only []) | (go_at_call 30; refine (wrong30 p s _ a er HR3.out).mono ?_; rintro e u4 ⟨rfl, hk4, hr4⟩; have HK4 := hidM hk4; have HR4 := hidM hr4; have hb4 : u4.heap[W.heap.size]? = some (.cells #[.bool false, .int .i64 0, .string ⟨#[]⟩, .slice none 0 0] 29) := ((HG3.out.mono (T := fun z => z = p) (fun _ _ h => h.elim)).trans hk4 (fun _ _ h => h)).block _ (lt_of_heap HB0.out) (fun e => hpn e.symm) |>.trans HB0.out; obtain ⟨q0, q1, q2, q3, z0, z1, z2, z3⟩ := blk4 hb4; have HB4 := hidM hb4; clear hk4 hr4 hb4; simp only []))
    refine bodyPost_ret (res4 _ W.heap.size _ _ _ _ false _ rfl rfl (set4_blk HB4.out _ _ _ _)) rfl ?_
    exact ⟨set4_kp (((gr_kp HG0.out).trans (gr_kp HG3.out) (fun _ _ h => h)).trans HK4.out (fun _ _ h => h)) (Nat.le_refl _) _ _ _ _, ⟨_, rfl, _, _, _, _, _, _, rfl⟩, (set4_rd HR4.out hpn _ _ _ _).isBad⟩
  | some i =>
    rw [hi] at hio
    rw [hio] at HX
    have hik := HIK.out i hi
    obtain ⟨fb, fo, hfp, hSb, hrows⟩ := HF.out.2 (fun e => by rw [e] at hik; simp at hik)
    obtain ⟨go, gc, hcs, hgc, hgr⟩ := hrows i hik
    have HV1 := hidM (HV.out i hik go gc hgc hgr)
    have HFC : Hid (∀ u, Keeps W u (fun z => z = p) → CellsAt u fb (fo + i * 7) kids[i] go gc) := fun u hk => hcs.kept (hk.block fb (HS.out fb hSb).1 (fun e => (HS.out fb hSb).2 e))
    have hgd : kids.getD i default = kids[i] := by simp [List.getD, List.getElem?_eq_getElem hik]
    have hkb : kids.length ≤ 1000000000000 := HF.out.1
    obtain ⟨g, hg⟩ : ∃ g, g = kids[i] := ⟨_, rfl⟩
    rw [← hg] at HV1 HFC hgd
    subst hfp
    obtain ⟨R, hRe⟩ : ∃ R, R = (match QB.takes [40] (s.data.toList.drop (a + nT)) with
      | none => none
      | some s1 => match r (kids.getD i default) s1 with
        | none => none
        | some (v, s2) => match QB.takes [41] s2 with
          | none => none
          | some s3 => some (VT.mk false i ⟨#[]⟩ [v], s3)) := ⟨_, rfl⟩
    show Calls _ _ _ _ (VaA W p s er (d + 1) (match QB.takes [40] (s.data.toList.drop (a + nT)) with
      | none => none
      | some s1 => match r (kids.getD i default) s1 with
        | none => none
        | some (v, s2) => match QB.takes [41] s2 with
          | none => none
          | some s3 => some (.mk false i ⟨#[]⟩ [v], s3)))
    rw [← hRe]
    rw [hgd] at hRe
    have HQ := hidM hRe
    have hi0 : ¬ (i : Int) < 0 := by omega
    have hikI : (i : Int) < (kids.length : Int) := by omega
    have hflI : (kids.length : Int) ≤ (fc : Int) := by omega
    have hsk : IntKind.i64.wrap ((a : Int) + (nT : Int)) = ((a + nT : Nat) : Int) := by rw [IntKind.wrap_i64]; omega
    obtain ⟨b1, hb1⟩ : ∃ b1, [40].isPrefixOf (s.data.toList.drop (a + nT)) = b1 := ⟨_, rfl⟩
    have HM1 : Hid (∀ u, Rd u p s (a + nT) er → Calls Tryz.prog 98 #[.pointer (some ⟨p, 0, none⟩), .string ⟨#[40]⟩] u fun e W' => e = .returned (.bool b1) ∧ Keeps u W' (fun z => z = p) ∧ Rd W' p s (if b1 then a + nT + 1 else a + nT) (if b1 then er else 8)) := fun u h => must98 p s ⟨#[40]⟩ b1 u (a + nT) er h (by decide) hb1
    rw [takes_iff, hb1] at HQ
    clear hg hRe hrows hcs hgr hgc hSb hgd hio hi HV HF HS hT HIK
    go_enter Tryz.func69, Tryz.ntmps69
    go_wp2_with (first | (go_at_call 95; refine HW.out.mono ?_; rintro e u1 ⟨rfl, hg1⟩; have HG1 := hidM hg1; clear hg1; simp only []) | (go_at_call 103; refine (HX.out u1 HG1.out).mono ?_; rintro e u3 ⟨rfl, hg3⟩; have HG3 := hidM ((HG1.out.trans (gr_alloc _ _) (fun _ _ h => h)).trans hg3 (fun _ _ h => h)); have HR3 := hidM (HR0.out.gr HG3.out); have d1 := HR3.out.cells.2.1; have y1 := HR3.out.frz.1; have HC3 : Hid (u3.cell? ⟨u1.heap.size, 0, none⟩ = some (.string wd)) := hg3.cell' (cell_new u1 _ 9) (fun h => h); have c66 := HC3.out; clear hg3; simp only []))
    have HC6 : Hid (u3.drew.cell? ⟨u1.heap.size, 0, none⟩ = some (.string wd)) := HC3.out
    have hpu : u1.heap.size ≠ p := by have h1 := HLT.out; have h2 := HG1.out.size; omega
    have HC7 : Hid ((u3.drew.setCell ⟨p, 1, none⟩ (.int .i64 ((a : Int) + (nT : Int)))).cell? ⟨u1.heap.size, 0, none⟩ = some (.string wd)) := (World.cell?_of_block (heap_setCell_other u3.drew ⟨p, 1, none⟩ u1.heap.size _ hpu)).trans HC6.out
    refine wp_region_held_drew (S := fun w' => w'.cell? ⟨u1.heap.size, 0, none⟩ = some (.string wd)) (by kernel_rfl) (HC6.out) (fun hHeld => ?_)
    refine wpAnyH_take (i := 0) (oi := { dst := some 20, op := Op.move (Operand.tmp 0), type := 61, pos := "parse.go:299", after := #[], guard := none }) (v := ?v0a1) rfl (by kernel_rfl) (by kernel_rfl) (by kernel_rfl) (fun _ _ _ h => h) (Or.inl ⟨by rfl, ?y0a1⟩) (by assumption) ?r0a1
    case y0a1 => (intro w hSw; (try dsimp only at hSw); go_simp; (try with_reducible rfl))
    (try simp only [Act.put]); (try simp only [List.setIfInBounds_toArray]); (try simp only [List.set_cons_succ]); (try simp only [List.set_cons_zero])
    refine wpAnyH_take (i := 1) (oi := { dst := some 21, op := Op.nilCheck (Operand.tmp 20), type := 0, pos := "parse.go:299", after := #[{ on := 0, ground := Ground.data }], guard := none }) (v := ?v1a2) rfl (by kernel_rfl) (by kernel_rfl) (by kernel_rfl) (fun _ _ _ h => h) (Or.inl ⟨by rfl, ?y1a2⟩) (by assumption) ?r1a2
    case y1a2 => (intro w hSw; (try dsimp only at hSw); go_simp; (try with_reducible rfl))
    (try simp only [Act.put]); (try simp only [List.setIfInBounds_toArray]); (try simp only [List.set_cons_succ]); (try simp only [List.set_cons_zero])
    refine wpAnyH_take (i := 2) (oi := { dst := some 22, op := Op.fieldAddr 63 (Operand.tmp 21) 1, type := 0, pos := "parse.go:299", after := #[{ on := 1, ground := Ground.data }], guard := none }) (v := ?v2a3) rfl (by kernel_rfl) (by kernel_rfl) (by kernel_rfl) (fun _ _ _ h => h) (Or.inl ⟨by rfl, ?y2a3⟩) (by assumption) ?r2a3
    case y2a3 => (intro w hSw; (try dsimp only at hSw); go_simp; (try with_reducible rfl))
    (try simp only [Act.put]); (try simp only [List.setIfInBounds_toArray]); (try simp only [List.set_cons_succ]); (try simp only [List.set_cons_zero])
    refine wpAnyH_take (i := 4) (oi := { dst := some 24, op := Op.load 9 (Operand.tmp 6), type := 9, pos := "parse.go:299", after := #[], guard := none }) (v := ?v4a4) rfl (by kernel_rfl) (by kernel_rfl) (by kernel_rfl) (fun _ _ _ h => h) (Or.inl ⟨by rfl, ?y4a4⟩) (by assumption) ?r4a4
    case y4a4 => (intro w hSw; (try dsimp only at hSw); go_simp; (try with_reducible rfl))
    (try simp only [Act.put]); (try simp only [List.setIfInBounds_toArray]); (try simp only [List.set_cons_succ]); (try simp only [List.set_cons_zero])
    refine wpAnyH_take (i := 5) (oi := { dst := some 25, op := Op.call { callee := Callee.builtin Builtin.len, args := #[Operand.tmp 24], argTypes := #[9] }, type := 3, pos := "parse.go:299", after := #[{ on := 4, ground := Ground.data }], guard := none }) (v := ?v5a5) rfl (by kernel_rfl) (by kernel_rfl) (by kernel_rfl) (fun _ _ _ h => h) (Or.inl ⟨by rfl, ?y5a5⟩) (by assumption) ?r5a5
    case y5a5 => (intro w hSw; (try dsimp only at hSw); go_simp; (try with_reducible rfl))
    (try simp only [Act.put]); (try simp only [List.setIfInBounds_toArray]); (try simp only [List.set_cons_succ]); (try simp only [List.set_cons_zero])
    refine wpAnyH_ready (rs := [3]) (by kernel_rfl) (by simp) ?_
    refine AllReadyH.cons (o := { dst := some 23, op := Op.load 3 (Operand.tmp 22), type := 3, pos := "parse.go:299", after := #[{ on := 2, ground := Ground.data }], guard := none }) rfl (fun Kc hK => ?_) AllReadyH.nil
    go_simp
    refine hK.out _ _ (HC6.out) (fun hHeld => ?_)
    clear hK Kc
    (try simp only [Act.put]); (try simp only [List.setIfInBounds_toArray]); (try simp only [List.set_cons_succ]); (try simp only [List.set_cons_zero])
    refine wpAnyH_take (i := 6) (oi := { dst := some 26, op := Op.binOp BinOp.add 3 (Operand.tmp 23) (Operand.tmp 25) 3, type := 3, pos := "parse.go:299", after := #[{ on := 3, ground := Ground.data }, { on := 5, ground := Ground.data }], guard := none }) (v := ?v6b1) rfl (by kernel_rfl) (by kernel_rfl) (by kernel_rfl) (fun _ _ _ h => h) (Or.inl ⟨by rfl, ?y6b1⟩) (by assumption) ?r6b1
    case y6b1 => (intro w hSw; (try dsimp only at hSw); go_simp; (try with_reducible rfl))
    (try simp only [Act.put]); (try simp only [List.setIfInBounds_toArray]); (try simp only [List.set_cons_succ]); (try simp only [List.set_cons_zero])
    refine wpAnyH_take (i := 7) (oi := { dst := some 27, op := Op.nilCheck (Operand.tmp 20), type := 0, pos := "parse.go:299", after := #[{ on := 0, ground := Ground.data }, { on := 0, ground := Ground.phase }, { on := 1, ground := Ground.phase }, { on := 2, ground := Ground.phase }, { on := 3, ground := Ground.phase }, { on := 4, ground := Ground.phase }, { on := 5, ground := Ground.phase }, { on := 6, ground := Ground.phase }], guard := none }) (v := ?v7b2) rfl (by kernel_rfl) (by kernel_rfl) (by kernel_rfl) (fun _ _ _ h => h) (Or.inl ⟨by rfl, ?y7b2⟩) (by assumption) ?r7b2
    case y7b2 => (intro w hSw; (try dsimp only at hSw); go_simp; (try with_reducible rfl))
    (try simp only [Act.put]); (try simp only [List.setIfInBounds_toArray]); (try simp only [List.set_cons_succ]); (try simp only [List.set_cons_zero])
    refine wpAnyH_take (i := 8) (oi := { dst := some 28, op := Op.fieldAddr 63 (Operand.tmp 27) 1, type := 0, pos := "parse.go:299", after := #[{ on := 7, ground := Ground.data }, { on := 0, ground := Ground.phase }, { on := 1, ground := Ground.phase }, { on := 2, ground := Ground.phase }, { on := 3, ground := Ground.phase }, { on := 4, ground := Ground.phase }, { on := 5, ground := Ground.phase }, { on := 6, ground := Ground.phase }], guard := none }) (v := ?v8b3) rfl (by kernel_rfl) (by kernel_rfl) (by kernel_rfl) (fun _ _ _ h => h) (Or.inl ⟨by rfl, ?y8b3⟩) (by assumption) ?r8b3
    case y8b3 => (intro w hSw; (try dsimp only at hSw); go_simp; (try with_reducible rfl))
    (try simp only [Act.put]); (try simp only [List.setIfInBounds_toArray]); (try simp only [List.set_cons_succ]); (try simp only [List.set_cons_zero])
    refine wpAnyH_ready (rs := [9]) (by kernel_rfl) (by simp) ?_
    refine AllReadyH.cons (o := { dst := none, op := Op.store 3 (Operand.tmp 28) (Operand.tmp 26), type := 0, pos := "parse.go:299", after := #[{ on := 8, ground := Ground.data }, { on := 6, ground := Ground.data }, { on := 0, ground := Ground.phase }, { on := 1, ground := Ground.phase }, { on := 2, ground := Ground.phase }, { on := 3, ground := Ground.phase }, { on := 4, ground := Ground.phase }, { on := 5, ground := Ground.phase }, { on := 6, ground := Ground.phase }], guard := none }) rfl (fun Kc hK => ?_) AllReadyH.nil
    go_simp
    refine hK.out _ _ (HC7.out) (fun hHeld => ?_)
    clear hK Kc
    (try simp only [Act.put]); (try simp only [List.setIfInBounds_toArray]); (try simp only [List.set_cons_succ]); (try simp only [List.set_cons_zero])
    refine wpAnyH_done (by kernel_rfl) ?_ _
    clear hHeld
    obtain ⟨V5, hV5⟩ : ∃ V5, (u3.setCell ⟨p, 1, none⟩ (.int .i64 ((a : Int) + (nT : Int)))).drew = V5 := ⟨_, rfl⟩
    have HR5 : Hid (Rd V5 p s (a + nT) er) := by
      have h := (HR3.out.set hle).gr gr_drew
      rw [Int.natCast_add] at h
      show Rd V5 p s _ er
      rw [← hV5]
      exact h
    have HK5 : Hid (Keeps A0 V5 (fun z => z = p)) := by
      show Keeps A0 V5 _
      rw [← hV5]
      exact Keeps.drew (Keeps.setCell (S := fun z => z = p) (gr_kp HG3.out) (p := ⟨p, 1, none⟩) (fun _ => rfl) _)
    rw [hV5]
    clear HC3 HC6 HC7 HR3 HG3 HX HW c66 d1 y1 hV5
    cases b1 with
    | false =>
      have HE : Hid (R = none) := HQ.out
      clear hb1 HQ
      go_wp2_with (go_at_call 98; refine (HM1.out _ HR5.out).mono ?_; rintro e u5 ⟨rfl, hk5, hr5⟩; have HK6 := hidM (HK5.out.trans hk5 (fun _ _ h => h)); have HR6 := hidM hr5; have hb5 := HKB.out u5 HK6.out; obtain ⟨q0, q1, q2, q3, z0, z1, z2, z3⟩ := blk4 hb5; have HB5 := hidM hb5; clear hk5 hr5 hb5; simp only [])
      refine bodyPost_ret (res4 _ W.heap.size _ _ _ _ false _ rfl rfl (set4_blk HB5.out _ _ _ _)) rfl ?_
      refine ⟨set4_kp ((gr_kp HG0.out).trans HK6.out (fun _ _ h => h)) (Nat.le_refl _) _ _ _ _, ?_⟩
      rw [HE.out]
      exact ⟨⟨_, rfl, _, _, _, _, _, _, rfl⟩, (set4_rd HR6.out hpn _ _ _ _).isBad⟩
    | true =>
      have hk1 : a + nT + 1 ≤ s.size := pre_lt hb1
      replace HQ : Hid (R = (match r g (s.data.toList.drop (a + nT + 1)) with
        | none => none
        | some (v, s2) => match QB.takes [41] s2 with
          | none => none
          | some s3 => some (VT.mk false i ⟨#[]⟩ [v], s3))) := by
        show _ = _
        rw [HQ.out, if_pos rfl]
        simp only [List.drop_drop]
        rfl
      replace HM1 : Hid (∀ u, Rd u p s (a + nT) er → Calls Tryz.prog 98 #[.pointer (some ⟨p, 0, none⟩), .string ⟨#[40]⟩] u fun e W' => e = .returned (.bool true) ∧ Keeps u W' (fun z => z = p) ∧ Rd W' p s (a + nT + 1) er) := HM1
      clear hb1
      cases ho : r g (s.data.toList.drop (a + nT + 1)) with
      | none =>
        have HC : Hid (∀ W2, Keeps W W2 (fun z => z = p) → Rd W2 p s (a + nT + 1) er → Calls Tryz.prog 29 #[.pointer (some ⟨p, 0, none⟩), .agg #[.string g.name, .bool g.nul, .int .i64 g.kind, .int .i64 g.width, .int .i64 g.id, .int .i64 g.index, .slice go g.kids.length gc]] W2 fun e W' => Keeps W2 W' (fun z => z = p) ∧ (∃ val, e = .returned (.tuple #[val, .bool false]) ∧ AnyV val) ∧ Bad W' p s) := fun W2 h1 h2 => by
          have h := HV1.out W2 (a + nT + 1) h1 h2
          rw [ho] at h
          exact h
        have HE : Hid (R = none) := by
          show _ = _
          rw [HQ.out, ho]
        clear ho HQ
        go_wp2_with (first | (go_at_call 29; refine (HC.out _ ((gr_kp HG0.out).trans HK6.out (fun _ _ h => h)) HR6.out).mono ?_; rintro e u6 ⟨hk6, ⟨val, rfl, b', n', x', lo, ln, lc, rfl⟩, hbad⟩; obtain ⟨B6, hB6⟩ : ∃ B6, u6.alloc (.cells #[.bool b', .int .i64 n', .string x', .slice lo ln lc] 29) = B6 := ⟨_, rfl⟩; have HK7 : Hid (Keeps A0 B6 (fun z => z = p)) := (by show Keeps A0 B6 _; rw [← hB6]; exact (HK6.out.trans hk6 (fun _ _ h => h)).alloc _); have HBAD : Hid (Bad B6 p s) := (by show Bad B6 p s; rw [← hB6]; exact hbad.gr (gr_alloc _ _)); have hb6 := HKB.out B6 HK7.out; obtain ⟨q0, q1, q2, q3, z0, z1, z2, z3⟩ := blk4 hb6; have HB6 := hidM hb6; clear hk6 hbad hb6; simp only []) | (go_at_call 98; refine (HM1.out _ HR5.out).mono ?_; rintro e u5 ⟨rfl, hk5, hr5⟩; have HK6 := hidM (HK5.out.trans hk5 (fun _ _ h => h)); have HR6 := hidM hr5; have hfc := HFC.out u5 ((gr_kp HG0.out).trans HK6.out (fun _ _ h => h)); obtain ⟨c0, c1, c2, c3, c4, c5, c6⟩ := hfc; clear hk5 hr5; simp only []))
        refine bodyPost_ret (res4 _ W.heap.size _ _ _ _ false _ rfl rfl (set4_blk HB6.out _ _ _ _)) rfl ?_
        refine ⟨set4_kp ((gr_kp HG0.out).trans HK7.out (fun _ _ h => h)) (Nat.le_refl _) _ _ _ _, ?_⟩
        rw [HE.out]
        obtain ⟨ba, be, hne, hbr⟩ := HBAD.out
        exact ⟨⟨_, rfl, _, _, _, _, _, _, rfl⟩, ba, be, hne, set4_rd hbr hpn _ _ _ _⟩
      | some vt =>
        obtain ⟨v, t⟩ := vt
        have HC : Hid (∀ W2, Keeps W W2 (fun z => z = p) → Rd W2 p s (a + nT + 1) er → Calls Tryz.prog 29 #[.pointer (some ⟨p, 0, none⟩), .agg #[.string g.name, .bool g.nul, .int .i64 g.kind, .int .i64 g.width, .int .i64 g.id, .int .i64 g.index, .slice go g.kids.length gc]] W2 fun e W' => Keeps W2 W' (fun z => z = p) ∧ (∃ val, e = .returned (.tuple #[val, .bool true]) ∧ VV d W2 W' v val) ∧ t.length ≤ s.size ∧ t = s.data.toList.drop (s.size - t.length) ∧ Rd W' p s (s.size - t.length) er) := fun W2 h1 h2 => by
          have h := HV1.out W2 (a + nT + 1) h1 h2
          rw [ho] at h
          exact h
        rw [ho] at HQ
        obtain ⟨b2, hb2⟩ : ∃ b2, [41].isPrefixOf t = b2 := ⟨_, rfl⟩
        replace HQ : Hid (R = (match QB.takes [41] t with
          | none => none
          | some s3 => some (VT.mk false i ⟨#[]⟩ [v], s3))) := HQ
        rw [takes_iff, hb2] at HQ
        have HM2 : Hid (∀ u, t = s.data.toList.drop (s.size - t.length) → Rd u p s (s.size - t.length) er → Calls Tryz.prog 98 #[.pointer (some ⟨p, 0, none⟩), .string ⟨#[41]⟩] u fun e W' => e = .returned (.bool b2) ∧ Keeps u W' (fun z => z = p) ∧ Rd W' p s (if b2 then s.size - t.length + 1 else s.size - t.length) (if b2 then er else 8)) := fun u ht h => must98 p s ⟨#[41]⟩ b2 u (s.size - t.length) er h (by decide) (by rw [← ht]; exact hb2)
        clear ho
        cases b2 with
        | false =>
          have HE : Hid (R = none) := HQ.out
          clear hb2 HQ
          go_wp2_with (first | (go_at_call 98; refine (HM2.out _ HT2.out HRB.out).mono ?_; rintro e u7 ⟨rfl, hk7, hr7⟩; have HK8 := hidM (HK7.out.trans hk7 (fun _ _ h => h)); have HR8 := hidM hr7; have hb7 := HKB.out u7 HK8.out; obtain ⟨q0, q1, q2, q3, z0, z1, z2, z3⟩ := blk4 hb7; have HB7 := hidM hb7; clear hk7 hr7 hb7; simp only []) | (go_at_call 29; refine (HC.out _ ((gr_kp HG0.out).trans HK6.out (fun _ _ h => h)) HR6.out).mono ?_; rintro e u6 ⟨hk6, ⟨val, rfl, ko, kc, rfl, hkc, hok, hrow⟩, ht1, ht2, hr6⟩; obtain ⟨B6, hB6⟩ : ∃ B6, u6.alloc (.cells #[.bool v.nul, .int .i64 v.num, .string v.text, .slice ko v.list.length kc] 29) = B6 := ⟨_, rfl⟩; have HG6 : Hid (Gr u6 B6) := (by show Gr u6 B6; rw [← hB6]; exact gr_alloc _ _); have HK7 : Hid (Keeps A0 B6 (fun z => z = p)) := (HK6.out.trans hk6 (fun _ _ h => h)).trans (gr_kp HG6.out) (fun _ _ h => h); have HRB : Hid (Rd B6 p s (s.size - t.length) er) := hr6.gr HG6.out; have HBX : Hid (B6.heap[u6.heap.size]? = some (.cells #[.bool v.nul, .int .i64 v.num, .string v.text, .slice ko v.list.length kc] 29)) := (by show _ = _; rw [← hB6]; exact heap_alloc_new u6 _); have HVV := hidM (And.intro hkc (And.intro hok hrow)); have HT1 := hidM ht1; have HT2 := hidM ht2; have HS6 := hidM hk6.size; clear hk6 hr6 ht1 ht2 hkc hok hrow; simp only []) | (go_at_call 98; refine (HM1.out _ HR5.out).mono ?_; rintro e u5 ⟨rfl, hk5, hr5⟩; have HK6 := hidM (HK5.out.trans hk5 (fun _ _ h => h)); have HR6 := hidM hr5; have hfc := HFC.out u5 ((gr_kp HG0.out).trans HK6.out (fun _ _ h => h)); obtain ⟨c0, c1, c2, c3, c4, c5, c6⟩ := hfc; clear hk5 hr5; simp only []))
          refine bodyPost_ret (res4 _ W.heap.size _ _ _ _ false _ rfl rfl (set4_blk HB7.out _ _ _ _)) rfl ?_
          refine ⟨set4_kp ((gr_kp HG0.out).trans HK8.out (fun _ _ h => h)) (Nat.le_refl _) _ _ _ _, ?_⟩
          rw [HE.out]
          exact ⟨⟨_, rfl, _, _, _, _, _, _, rfl⟩, (set4_rd HR8.out hpn _ _ _ _).isBad⟩
        | true =>
          have HE : Hid (R = some (VT.mk false i ⟨#[]⟩ [v], t.drop 1)) := HQ.out
          replace HM2 : Hid (∀ u, t = s.data.toList.drop (s.size - t.length) → Rd u p s (s.size - t.length) er → Calls Tryz.prog 98 #[.pointer (some ⟨p, 0, none⟩), .string ⟨#[41]⟩] u fun e W' => e = .returned (.bool true) ∧ Keeps u W' (fun z => z = p) ∧ Rd W' p s (s.size - t.length + 1) er) := HM2
          have HTL : Hid (1 ≤ t.length) := by
            cases t with
            | nil => cases hb2
            | cons x y => show 1 ≤ _; simp
          clear hb2 HQ
          go_wp2_with (first | (go_at_call 98; refine (HM2.out _ HT2.out HRB.out).mono ?_; rintro e u7 ⟨rfl, hk7, hr7⟩; have hxx := HBX.out; have hpu6 : u6.heap.size ≠ p := (by have h1 := HLT.out; have h2 := HG0.out.size; have h3 := HK6.out.size; have h4 := HS6.out; omega); have hbx7 : u7.heap[u6.heap.size]? = some (.cells #[.bool v.nul, .int .i64 v.num, .string v.text, .slice ko v.list.length kc] 29) := (hk7.block _ (lt_of_heap hxx) hpu6).trans hxx; obtain ⟨x0, x1, x2, x3, -⟩ := blk4 hbx7; have HKK := hidM hk7; have HK8 := hidM (HK7.out.trans hk7 (fun _ _ h => h)); have HR8 := hidM hr7; obtain ⟨B8, hB8⟩ : ∃ B8, u7.alloc (.cells #[.bool v.nul, .int .i64 v.num, .string v.text, .slice ko v.list.length kc] 29) = B8 := ⟨_, rfl⟩; have HG8 : Hid (Gr u7 B8) := (by show Gr u7 B8; rw [← hB8]; exact gr_alloc _ _); have hb8 := HKB.out B8 (HK8.out.trans (gr_kp HG8.out) (fun _ _ h => h)); obtain ⟨q0, q1, q2, q3, z0, z1, z2, z3⟩ := blk4 hb8; have HB8 := hidM hb8; have HE8 := hidM hB8; clear hk7 hr7 hb8 hbx7 hxx; simp only []) | (go_at_call 29; refine (HC.out _ ((gr_kp HG0.out).trans HK6.out (fun _ _ h => h)) HR6.out).mono ?_; rintro e u6 ⟨hk6, ⟨val, rfl, ko, kc, rfl, hkc, hok, hrow⟩, ht1, ht2, hr6⟩; obtain ⟨B6, hB6⟩ : ∃ B6, u6.alloc (.cells #[.bool v.nul, .int .i64 v.num, .string v.text, .slice ko v.list.length kc] 29) = B6 := ⟨_, rfl⟩; have HG6 : Hid (Gr u6 B6) := (by show Gr u6 B6; rw [← hB6]; exact gr_alloc _ _); have HK7 : Hid (Keeps A0 B6 (fun z => z = p)) := (HK6.out.trans hk6 (fun _ _ h => h)).trans (gr_kp HG6.out) (fun _ _ h => h); have HRB : Hid (Rd B6 p s (s.size - t.length) er) := hr6.gr HG6.out; have HBX : Hid (B6.heap[u6.heap.size]? = some (.cells #[.bool v.nul, .int .i64 v.num, .string v.text, .slice ko v.list.length kc] 29)) := (by show _ = _; rw [← hB6]; exact heap_alloc_new u6 _); have HVV := hidM (And.intro hkc (And.intro hok hrow)); have HT1 := hidM ht1; have HT2 := hidM ht2; have HS6 := hidM hk6.size; clear hk6 hr6 ht1 ht2 hkc hok hrow; simp only []) | (go_at_call 98; refine (HM1.out _ HR5.out).mono ?_; rintro e u5 ⟨rfl, hk5, hr5⟩; have HK6 := hidM (HK5.out.trans hk5 (fun _ _ h => h)); have HR6 := hidM hr5; have hfc := HFC.out u5 ((gr_kp HG0.out).trans HK6.out (fun _ _ h => h)); obtain ⟨c0, c1, c2, c3, c4, c5, c6⟩ := hfc; clear hk5 hr5; simp only []))
          refine bodyPost_ret (res4 _ W.heap.size _ _ _ _ true _ rfl rfl (set4_blk HB8.out _ _ _ _)) rfl ?_
          refine ⟨set4_kp (((gr_kp HG0.out).trans HK8.out (fun _ _ h => h)).trans (gr_kp HG8.out) (fun _ _ h => h)) (Nat.le_refl _) _ _ _ _, ?_⟩
          rw [HE.out]
          have h1 := HTL.out
          have h2 := HT1.out
          have e3 : (t.drop 1).length = t.length - 1 := by simp
          have e4 : s.size - (t.length - 1) = s.size - t.length + 1 := by omega
          refine ⟨⟨_, rfl, some ⟨u7.heap.size, 0, none⟩, 1, rfl, Nat.le_refl 1, ?_, ?_⟩, by rw [e3]; omega, ?_, ?_⟩
          · exact ⟨⟨by show (_ : Int) ≤ (i : Int); omega, by show (i : Int) ≤ _; omega⟩, by show (0 : Nat) ≤ _; omega⟩
          · have hr7 : VRow (NV A0 u7) u7 d ko v.list := by
              have hA : A0.heap.size ≤ u5.heap.size := HK6.out.size
              have hp6 := HLT.out
              have k67 : ∀ b, NV u5 u6 b → u7.heap[b]? = u6.heap[b]? := fun b hb => by
                have s1 := HG0.out.size
                have q1 := HKK.out.block b (Nat.lt_of_lt_of_le hb.2 HG6.out.size) (fun e => by have := hb.1; omega)
                exact q1.trans (HG6.out.block b hb.2 id)
              have z := HVV.out.2.2.nv k67 (Nat.le_trans HG6.out.size HKK.out.size)
              exact z.mono fun b hb => ⟨Nat.le_trans hA hb.1, hb.2⟩
            have hvl := VL.one (W := A0) (x := v) (ko := ko) (kc := kc) HK8.out.size HVV.out.1 HVV.out.2.1 hr7
            rw [HE8.out] at hvl
            have hrow := (hvl.rowAt (by simp [big])).2
            have hk := hrow.kept (W' := set4 B8 W.heap.size (.bool false) (.int .i64 (i : Int)) (.string ⟨#[]⟩) (.slice (some ⟨u7.heap.size, 0, none⟩) 1 1)) (fun b hb => set4_oth (fun e => by have := hb.1; omega) _ _ _ _)
            exact hk.mono fun b hb => ⟨by have := hb.1; omega, Nat.lt_of_lt_of_le hb.2 (Nat.le_of_eq (set4_size B8 W.heap.size _ _ _ _).symm)⟩
          · rw [e3, e4]
            have hT := HT2.out
            rw [← List.drop_drop, ← hT]
          · rw [e3, e4]
            exact set4_rd (HR8.out.gr HG8.out) hpn _ _ _ _
end Go.Proofs.YtfoifmacobldbaaGreatDoor.Kit
