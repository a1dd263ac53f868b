import Derived.Test.YteppfammimbmcaaDoorFB
namespace Go.Proofs.YteppfammimbmcaaDoor.Kit
open Go.RowKit Go.Shelf Go.Deep
set_option linter.unusedVariables false

attribute [local go_sem] Oper.semAt_some

theorem get_c (v : Value) (a : List Nat) (fr i : Nat) (h : fr + i < 8 * a.length) (w : World) (hA : MapAt w v a) : Calls Tryd.prog 26 #[v, .int .i64 (fr + i : Nat)] w fun e w' => e = .returned (.tuple #[.bool (bitAt a (fr + i)), .int .i64 0]) ∧ Keeps w w' (fun _ => False) := by
  have hl := hA.len
  refine (get_all v a (fr + i : Nat) ⟨by omega, by omega⟩ w hA).mono ?_
  rintro e w' ⟨rfl, hk⟩
  have he : errOf a.length ((fr + i : Nat) : Int) 1 = 0 := errOf_ok (m := 1) (by omega)
  have hg : getV a ((fr + i : Nat) : Int) = bitAt a (fr + i) := by unfold getV; rw [if_pos he]; rfl
  rw [hg, he]
  exact ⟨rfl, hk⟩
theorem place_c (v : Value) (a : List Nat) (fr m k : Nat) (h : fr + m ≤ 8 * a.length) (hk : k ≤ 9223372036854775807) (w : World) (hT : Tab w) (hA : MapAt w v a) : Calls Tryd.prog 31 #[v, .int .i64 fr, .int .i64 m, .int .i64 k] w fun e w' => e = .returned (placeOf (fun j => bitAt a (fr + j)) k m) ∧ Keeps w w' (fun _ => False) := by
  obtain ⟨⟨ao, ca, rfl, hb, hc1, hc2⟩, hl, hlen⟩ := hA
  exact place_ok ao ca a hl hlen hc1 hc2 fr m k hk h w hT hb
theorem next_c (v : Value) (a : List Nat) (fr m : Nat) (on : Bool) (h : fr + m ≤ 8 * a.length) (w : World) (hT : Tab w) (hA : MapAt w v a) : Calls Tryd.prog 21 #[v, .int .i64 fr, .int .i64 m, .bool on] w fun e w' => e = .returned (.int .i64 (nextOf (fun j => bitAt a (fr + j)) on m)) ∧ Keeps w w' (fun _ => False) := by
  have hl := hA.len
  refine (next_all v a on fr m ⟨by omega, by omega⟩ ⟨by omega, by omega⟩ w hT hA).mono ?_
  rintro e w' ⟨rfl, hk⟩
  have he : nextV a fr m on = nextOf (fun j => bitAt a (fr + j)) on m := by unfold nextV; rw [if_pos (errOf_ok h)]; rfl
  rw [he]
  exact ⟨rfl, hk⟩
theorem runs_c (v : Value) (a : List Nat) (fr m : Nat) (h : fr + m ≤ 8 * a.length) (w : World) (hT : Tab w) (hA : MapAt w v a) : Calls Tryd.prog 17 #[v, .int .i64 fr, .int .i64 m] w fun e w' => ∃ u, e = .returned u ∧ Iter w w' u (fun j => bitAt a (fr + j)) m := by
  obtain ⟨⟨ao, ca, rfl, hb, hc1, hc2⟩, hl, hlen⟩ := hA
  exact runs_ok ao ca a hl hlen hc1 hc2 fr m h w hT hb
def room23 (w : World) (lo : Option Addr) (m lc : Nat) : World := ((w.alloc (.cells #[.slice lo m lc] 25)).alloc (.cells #[.int .i64 (m : Int)] 3)).alloc (.cells #[.bool false] 4)
theorem room23_keeps (w : World) (lo : Option Addr) (m lc : Nat) : Keeps w (room23 w lo m lc) (fun _ => False) := (((Keeps.refl _ _).alloc _).alloc _).alloc _
/-- the boxes of 'ones' -/
structure Box23 (w W : World) (lo : Option Addr) (m lc : Nat) : Prop where
  b0 : Boxed W w.heap.size 25 (.slice lo m lc)
  b1 : Boxed W (w.heap.size + 1) 3 (.int .i64 (m : Int))
  b2 : Boxed W (w.heap.size + 1 + 1) 4 (.bool false)
theorem Box23.start (w : World) (lo : Option Addr) (m lc : Nat) : Box23 w (room23 w lo m lc) lo m lc := by
  refine ⟨((Boxed.new w 25 _).alloc _).alloc _, ?_, ?_⟩
  · have := (Boxed.new (w.alloc (.cells #[.slice lo m lc] 25)) 3 (.int .i64 (m : Int))).alloc (.cells #[.bool false] 4)
    rw [World.size_alloc] at this
    exact this
  · have := Boxed.new ((w.alloc (.cells #[.slice lo m lc] 25)).alloc (.cells #[.int .i64 (m : Int)] 3)) 4 (.bool false)
    rw [World.size_alloc, World.size_alloc] at this
    exact this
theorem box_keeps {W W' : World} {B : Nat} {t : TypeId} {v : Value} {S : Nat → Prop} (h : Boxed W B t v) (k : Keeps W W' S) (hS : ¬ S B) : Boxed W' B t v := (k.block B h.lt hS).trans h
theorem Box23.kept {w W W' : World} {lo : Option Addr} {m lc : Nat} (h : Box23 w W lo m lc) (k : Keeps W W' (fun _ => False)) : Box23 w W' lo m lc := ⟨box_keeps h.b0 k id, box_keeps h.b1 k id, box_keeps h.b2 k id⟩

set_option maxRecDepth 100000 in
set_option maxHeartbeats 4000000 in
theorem ones_any2 (ao : Option Addr) (ca : Nat) (a : List Nat) (lo : Option Addr) (lc fr m : Nat) (h : fr + m ≤ 8 * a.length) (hlc : m ≤ lc) (w : World) (hT : Tab w) (hA : MapAt w (.slice ao a.length ca) a) (hL : BoolsAt w lo m (fun j => bitAt a (fr + j))) :
    Calls Tryd.prog 23 #[.slice ao a.length ca, .slice lo m lc, .int .i64 fr, .int .i64 m, .int .i64 (cn (fun j => bitAt a (fr + j)) m : Nat)] w fun e w' => e = .returned (.bool true) ∧ Keeps w w' (fun _ => False) := by
  have hal := hA.len
  have HT : Hid (Tab w) := hT
  have HA : Hid (MapAt w (.slice ao a.length ca) a) := hA
  obtain ⟨f, HF⟩ : ∃ f : Nat → Bool, f = fun j => bitAt a (fr + j) := ⟨_, rfl⟩
  have HG : Hid (∀ i, i < m → ∀ W, Keeps w W (fun _ => False) → Calls Tryd.prog 26 #[.slice ao a.length ca, .int .i64 (fr + i : Nat)] W fun e w' => e = .returned (.tuple #[.bool (f i), .int .i64 0]) ∧ Keeps W w' (fun _ => False)) := fun i hi W k => by rw [HF]; exact get_c _ a fr i (by omega) W (hA.kept k)
  have HP : Hid (∀ k : Nat, k ≤ 9223372036854775807 → ∀ W, Keeps w W (fun _ => False) → Calls Tryd.prog 31 #[.slice ao a.length ca, .int .i64 fr, .int .i64 m, .int .i64 k] W fun e w' => e = .returned (placeOf f k m) ∧ Keeps W w' (fun _ => False)) := fun k hk W kk => by rw [HF]; exact place_c _ a fr m k h hk W (hT.kept kk id) (hA.kept kk)
  have HX : Hid (∀ W, Keeps w W (fun _ => False) → Calls Tryd.prog 21 #[.slice ao a.length ca, .int .i64 fr, .int .i64 m, .bool true] W fun e w' => e = .returned (.int .i64 (nextOf f true m)) ∧ Keeps W w' (fun _ => False)) := fun W kk => by rw [HF]; exact next_c _ a fr m true h W (hT.kept kk id) (hA.kept kk)
  have HR : Hid (∀ W, Keeps w W (fun _ => False) → Calls Tryd.prog 17 #[.slice ao a.length ca, .int .i64 fr, .int .i64 m] W fun e w' => ∃ u, e = .returned u ∧ Iter W w' u f m) := fun W kk => by rw [HF]; exact runs_c _ a fr m h W (hT.kept kk id) (hA.kept kk)
  rw [← HF] at hL ⊢
  have HL : Hid (BoolsAt w lo m f) := hL
  clear HF hT hA hL
  have hm8 : m ≤ 80000000 := by omega
  have hfr8 : fr ≤ 80000000 := by omega
  have hcm := cn_le f m
  obtain ⟨many, hmany⟩ : ∃ many, many = cn f m := ⟨_, rfl⟩
  rw [← hmany] at hcm ⊢
  have HMN : Hid (cn f m = many) := hmany.symm
  clear hmany
  refine (callsIn_wide (n := 6)).1 ?_
  refine callsIn_of_wp_marks Tryd.func23 rfl trivial ?_ rfl
  simp only [Tryd.ntmps23, List.size_toArray, List.length_cons, List.length_nil, Nat.reduceAdd, Nat.reduceSub, Array.replicate_succ, Array.replicate_zero, List.push_toArray, List.append_toArray, List.nil_append, List.cons_append]
  gi_wp2
  have HB0 : Hid (Box23 w (room23 w lo m lc) lo m lc ∧ Keeps w (room23 w lo m lc) (fun _ => False)) := ⟨Box23.start w lo m lc, room23_keeps w lo m lc⟩
  gi_loopw [11, 12] (fun k i wr => ∃ j c : Nat, j ≤ m ∧ c ≤ j ∧ k = .int .i64 c ∧ i = .int .i64 j ∧ Hid (c = cn f j ∧ Box23 w wr lo m lc ∧ Keeps w wr (fun _ => False))) (fun _ i _ => m - (intOf i).toNat)
  case atStart => exact ⟨0, 0, Nat.zero_le _, Nat.le_refl _, rfl, rfl, rfl, HB0.out⟩
  case round =>
    clear HB0
    obtain ⟨j, c, hj, hcj, rfl, rfl, HD⟩ := hrel
    have p0 := HD.out.2.1.b0.cell
    have p1 := HD.out.2.1.b1.cell
    by_cases hlt : j < m
    · obtain ⟨b, off, rfl, hcs⟩ := (HL.out.kept0 HD.out.2.2) (by omega)
      have hc := hcs j hlt
      gi_wp2_with fail
      refine ⟨trivial, ?_⟩
      gi_at_call 26
      refine (callsIn_wide.2 (HG.out j hlt _ HD.out.2.2)).mono ?_
      rintro e w1 ⟨rfl, hk1⟩
      have HK1 : Hid (Keeps w w1 (fun _ => False)) := HD.out.2.2.trans hk1 fun _ _ h => h
      have HB1 : Hid (Box23 w w1 (some ⟨b, off, none⟩) m lc) := HD.out.2.1.kept hk1
      have hc1 := hk1.cell' hc id
      have q0 := HB1.out.b0.cell
      have q1 := HB1.out.b1.cell
      clear hk1 hcs hc p0 p1
      cases hfj : f j
      · rw [hfj] at hc1
        have HD' : Hid (c = cn f (j + 1) ∧ Box23 w w1 (some ⟨b, off, none⟩) m lc ∧ Keeps w w1 (fun _ => False)) := ⟨by rw [HD.out.1]; simp [cn, hfj], HB1.out, HK1.out⟩
        clear HD HB1 HK1
        gi_wp2
        go_roundw
        case rel => exact ⟨j + 1, c, by omega, by omega, rfl, by go_num, HD'⟩
        case measure => simp [intOf]; omega
      · rw [hfj] at hc1
        have hpl : placeOf f c m = .tuple #[.int .i64 (j : Nat), .int .i64 0] := by
          have e := pl_eq (f := f) (k := c) hlt hfj HD.out.1.symm
          unfold placeOf
          rw [e, if_neg (by omega)]
        have hcl : c ≤ 9223372036854775807 := by omega
        gi_wp2_with fail
        refine ⟨trivial, ?_⟩
        gi_at_call 31
        refine (callsIn_wide.2 (HP.out c hcl _ HK1.out)).mono ?_
        rintro e w2 ⟨rfl, hk2⟩
        rw [hpl]
        have HK2 : Hid (Keeps w w2 (fun _ => False)) := HK1.out.trans hk2 fun _ _ h => h
        have HB2 : Hid (Box23 w w2 (some ⟨b, off, none⟩) m lc) := HB1.out.kept hk2
        have r0 := HB2.out.b0.cell
        have r1 := HB2.out.b1.cell
        clear hk2 q0 q1 hc1 HB1 HK1 hpl
        by_cases hc0 : c = 0
        · have hnx : nextOf f true m = (j : Int) := next_first hlt hfj (by rw [← HD.out.1]; exact hc0)
          subst hc0
          gi_wp2_with fail
          refine ⟨trivial, ?_⟩
          gi_at_call 21
          refine (callsIn_wide.2 (HX.out _ HK2.out)).mono ?_
          rintro e w3 ⟨rfl, hk3⟩
          rw [hnx]
          have HD' : Hid (0 + 1 = cn f (j + 1) ∧ Box23 w w3 (some ⟨b, off, none⟩) m lc ∧ Keeps w w3 (fun _ => False)) := ⟨by simp only [cn, hfj, ← HD.out.1]; rfl, HB2.out.kept hk3, HK2.out.trans hk3 fun _ _ h => h⟩
          clear hk3 HD HB2 HK2 r0 r1 hnx
          gi_wp2
          go_roundw
          case rel => exact ⟨j + 1, 0 + 1, by omega, by omega, by go_num, by go_num, HD'⟩
          case measure => simp [intOf]; omega
        · have HD' : Hid (c + 1 = cn f (j + 1) ∧ Box23 w w2 (some ⟨b, off, none⟩) m lc ∧ Keeps w w2 (fun _ => False)) := ⟨by simp only [cn, hfj, ← HD.out.1]; rfl, HB2.out, HK2.out⟩
          have hc0' : ¬ (c : Int) = 0 := by omega
          have hc0'' : ((c : Int) == 0) = false := by simpa using hc0'
          clear HD HB2 HK2
          gi_wp2
          refine ⟨trivial, ?_⟩
          gi_wp2
          go_roundw
          case rel => exact ⟨j + 1, c + 1, by omega, by omega, by go_num, by go_num, HD'⟩
          case measure => simp [intOf]; omega
    · obtain rfl : j = m := by omega
      have p1a := fun o o' => cellAlloc o' (cellAlloc o p1)
      gi_wp2_with fail
      refine ⟨trivial, ?_⟩
      gi_at_call 17
      refine (callsIn_wide.2 (HR.out _ ((HD.out.2.2.alloc _).alloc _))).mono ?_
      rintro e w1 ⟨v, rfl, b1, b2, b3, ao1, ca1, kl, first, rfl, hkl, hkn, hke, hH, hf, hK, hS⟩
      have h0w : 0 < w.heap.size := block_lt_of_cell (HT.out 0 (by decide))
      have hwr : w.heap.size + 1 + 1 < wr.heap.size := HD.out.2.1.b2.lt
      have hsz : wr.heap.size + 1 + 1 ≤ w1.heap.size := by have := hK.size; simpa using this
      have hS1 : ∀ b, HeldS b1 b2 b3 ao1 b → b < w1.heap.size := fun b hb => by rcases hS b hb with e | e <;> omega
      have hS2 : ∀ q, w.heap.size ≤ q → q < wr.heap.size + 2 → ¬ HeldS b1 b2 b3 ao1 q := fun q hq hq2 hb => by
        rcases hS _ hb with e | e
        · omega
        · have := e.1; simp at this; omega
      have hKw : Keeps wr w1 (fun _ => False) := (((Keeps.refl _ _).alloc _).alloc _).trans hK fun _ _ h => h
      have hx0 : Boxed w1 w.heap.size 25 (.slice lo j lc) := box_keeps HD.out.2.1.b0 hKw id
      have hx1 : Boxed w1 (w.heap.size + 1) 3 (.int .i64 (j : Int)) := box_keeps HD.out.2.1.b1 hKw id
      have hx2 : Boxed w1 (w.heap.size + 1 + 1) 4 (.bool false) := box_keeps HD.out.2.1.b2 hKw id
      have hx3 : Boxed w1 wr.heap.size 3 (.int .i64 0) := box_keeps ((Boxed.new wr 3 (.int .i64 0)).alloc _) hK id
      have hx4 : Boxed w1 (wr.heap.size + 1) 3 (.int .i64 (-1)) := box_keeps (by have := Boxed.new (wr.alloc (.cells #[.int .i64 0] 3)) 3 (.int .i64 (-1)); rw [World.size_alloc] at this; exact this) hK id
      have hBw : Below w.heap.size w w1 := (HD.out.2.2.trans hKw fun _ _ h => h).below' (Nat.le_refl _)
      have hrf : rf (fun k => bitAt kl (first + k)) j = rf f j := rf_congr hf
      have hst := runs_stops (6 - 1) (by decide) b1 b2 b3 ao1 ca1 kl hkl hkn first j hke w1 hH
      rw [hrf] at hst
      have hlm := rf_len_le f j
      have HCC : Hid (c = cn f j) := HD.out.1
      obtain ⟨BS, hBS⟩ : ∃ BS, BS = wr.heap.size := ⟨_, rfl⟩
      rw [← hBS] at hwr hsz hS2 hx3 hx4 ⊢
      have hnf : ∀ w, (binOp .eql 47 (.func (.func 47) #[] #[.pointer (some ⟨b1, 0, none⟩), .pointer (some ⟨b2, 0, none⟩), .pointer (some ⟨b3, 0, none⟩)]) .nilFunc).run Tryd.prog w = .ok (.bool false) w := fun w => by kernel_rfl
      clear hBS hKw hK hS hH hf hrf hkl hkn hke p0 p1 p1a HD HG HR
      gi_wp2
      refine wpIn_rangeFunc_ownF rfl (by decide) (gf := 47) (lb := #[.pointer (some ⟨b1, 0, none⟩), .pointer (some ⟨b2, 0, none⟩), .pointer (some ⟨b3, 0, none⟩)]) rfl trivial (enters_of Tryd.func47 (by kernel_rfl) rfl)
        hst kp_t (kp_b hS1) (Below.refl _ _) (fun _ => rfl)
        (fun pre W => (Boxed W w.heap.size 25 (.slice lo j lc) ∧ Boxed W (w.heap.size + 1) 3 (.int .i64 (j : Int)) ∧ Boxed W (w.heap.size + 1 + 1) 4 (.bool false) ∧ Boxed W BS 3 (.int .i64 (sumM pre : Nat)) ∧ Boxed W (BS + 1) 3 (.int .i64 (lastM pre))) ∧ Below w.heap.size w W)
        (fun c pre W => c = .ret ∧ ¬ (pre <+: rf f j))
        (OwnFrom.and (fun s A B row hs hg hr => ⟨box_kept hs.1 hg hr, box_kept hs.2.1 hg hr, box_kept hs.2.2.1 hg hr, box_kept hs.2.2.2.1 hg hr, box_kept hs.2.2.2.2 hg hr⟩) (ownFrom_below (Nat.le_refl _) (by omega)))
        (fun c s A B row hs hg hr => hs)
        ⟨⟨hx0, hx1, hx2, hx3, hx4⟩, hBw⟩
        (fun x => { tmps := #[Value.slice ao a.length ca, Value.slice lo j lc, Value.int IntKind.i64 ↑fr, Value.int IntKind.i64 ↑j, Value.int IntKind.i64 ↑many, undef, Value.pointer (some { block := w.heap.size, off := 0 }), undef, Value.pointer (some { block := w.heap.size + 1, off := 0 }), undef, Value.pointer (some { block := w.heap.size + 1 + 1, off := 0 }), Value.int IntKind.i64 ↑c, Value.int IntKind.i64 ↑j, u13, u14, u15, u16, Value.pointer (some { block := BS, off := 0 }), Value.pointer (some { block := BS + 1, off := 0 }), Value.func (Fn.func 47) #[] #[Value.pointer (some { block := b1, off := 0 }), Value.pointer (some { block := b2, off := 0 }), Value.pointer (some { block := b3, off := 0 })], .int .i64 (min x.1 1000000000 : Nat), .int .i64 (min x.2 1000000000 : Nat), undef, undef, undef, Value.int IntKind.i64 ↑j, Value.int IntKind.i64 ↑j, Value.bool false, u28, u29, u30, u31, u32, u33, u34, u35, u36, u37, u38, u39, u40, u41, u42, u43, u44, u45, u46, u47, u48, u49, u50, u51, u52, u53, u54, u55, u56, u57, u58, u59, u60, u61, u62, u63, u64, u65, u66, u67, u68, u69, u70, u71, u72, u73, u74, u75, u76, u77, u78, Value.slice ao a.length ca, Value.int IntKind.i64 ↑fr, Value.int IntKind.i64 ↑j, Value.func (Fn.func 47) #[] #[Value.pointer (some { block := b1, off := 0 }), Value.pointer (some { block := b2, off := 0 }), Value.pointer (some { block := b3, off := 0 })], Value.func (Fn.func 47) #[] #[Value.pointer (some { block := b1, off := 0 }), Value.pointer (some { block := b2, off := 0 }), Value.pointer (some { block := b3, off := 0 })], Value.bool false, Value.func (Fn.func 47) #[] #[Value.pointer (some { block := b1, off := 0 }), Value.pointer (some { block := b2, off := 0 }), Value.pointer (some { block := b3, off := 0 })], .int .i64 (min x.1 1000000000 : Nat), .int .i64 (min x.2 1000000000 : Nat), undef, undef, undef, undef, undef, undef, undef, undef, undef, undef, undef, undef, undef, undef, undef, undef, undef, undef, undef, undef, undef, undef, undef, undef, undef, undef, undef, undef, undef, undef, undef, undef, undef, undef, undef, undef, undef, undef, undef, undef, undef, undef, undef, undef, undef, undef, undef, undef, undef, undef, undef, undef, undef, undef, undef, undef, undef, undef, undef, undef, undef, undef, undef, undef], defers := [] }) ?assign ?body ?done ?stop
      case assign =>
        intro l x W K hK
        simp only [encR]
        gi_wp2
        exact hK
      case body =>
        rintro l pre x W ⟨⟨hx0, hx1, hx2, hx3, hx4⟩, hB⟩ hlt2
        have hrun := fun hp => run_ok (f := f) (m := j) (by omega) (pre := pre) (x := x) hp
        have hsm := sumM_le pre
        have hsn := sumM_snoc pre x
        have hlb := lastM_bd pre
        have hls := lastM_snoc pre x
        have hmin : min x.2 1000000000 ≤ 1000000000 := Nat.min_le_right _ _
        have hmin1 : min x.1 1000000000 ≤ 1000000000 := Nat.min_le_right _ _
        obtain ⟨y, hy⟩ : ∃ y, y = min x.2 1000000000 := ⟨_, rfl⟩
        obtain ⟨z, hz⟩ : ∃ z, z = min x.1 1000000000 := ⟨_, rfl⟩
        obtain ⟨t, ht⟩ : ∃ t, t = sumM pre := ⟨_, rfl⟩
        obtain ⟨L, hL0⟩ : ∃ L, L = lastM pre := ⟨_, rfl⟩
        rw [← hy, ← hz] at hrun hls
        rw [← hy] at hsn hmin
        rw [← hz] at hmin1
        rw [← ht] at hsn hsm hx3
        rw [← hL0] at hrun hlb hx4
        rw [← hy, ← hz]
        obtain ⟨hlb1, hlb2⟩ := hlb
        have htb : t ≤ 80000000000000000 := by omega
        have HRUN : Hid (pre ++ [x] <+: rf f j → L < (z : Int) ∧ 1 ≤ y ∧ z + y ≤ j ∧ ∀ i, z ≤ i → i < z + y → f i = true) := hrun
        have HS : Hid (sumM (pre ++ [x]) = t + y ∧ lastM (pre ++ [x]) = ((z + y : Nat) : Int)) := ⟨hsn, hls⟩
        have c0 := hx0.cell
        have c1 := hx1.cell
        have c2 := hx2.cell
        have f2 := hx2.frozen
        have c3 := hx3.cell
        have f3 := hx3.frozen
        have c4 := hx4.cell
        have f4 := hx4.frozen
        have HBX : Hid ((Boxed W w.heap.size 25 (.slice lo j lc) ∧ Boxed W (w.heap.size + 1) 3 (.int .i64 (j : Int)) ∧ Boxed W (w.heap.size + 1 + 1) 4 (.bool false) ∧ Boxed W BS 3 (.int .i64 (t : Nat)) ∧ Boxed W (BS + 1) 3 (.int .i64 L)) ∧ Below w.heap.size w W) := ⟨⟨hx0, hx1, hx2, hx3, hx4⟩, hB⟩
        have HLW : Hid (BoolsAt W lo j f) := HL.out.kept0 (Keeps.below_none hB)
        clear hrun hsn hls hy hz ht hL0 hx0 hx1 hx2 hx3 hx4 hB hsm
        by_cases h1 : (z : Int) ≤ L
        · gi_wp2
          exact ⟨KeepsOthers.setCell _ _ _, rfl, fun hp => by have := (HRUN.out hp).1; omega⟩
        · by_cases h2 : y < 1
          · have h2' : (y : Int) < 1 := by omega
            gi_wp2
            exact ⟨KeepsOthers.setCell _ _ _, rfl, fun hp => by have := (HRUN.out hp).2.1; omega⟩
          · by_cases h3 : j < z + y
            · have h2' : ¬ (y : Int) < 1 := by omega
              have h3' : (j : Int) < (z : Int) + y := by omega
              gi_wp2
              exact ⟨KeepsOthers.setCell _ _ _, rfl, fun hp => by have := (HRUN.out hp).2.2.1; omega⟩
            · have h2' : ¬ (y : Int) < 1 := by omega
              have h3' : ¬ (j : Int) < (z : Int) + y := by omega
              gi_wp2
              gi_loop [22] (fun i => ∃ q : Nat, z ≤ q ∧ q ≤ z + y ∧ i = .int .i64 q) (fun i => z + y - (intOf i).toNat)
              case atStart => exact ⟨z, Nat.le_refl _, by omega, rfl⟩
              case round =>
                obtain ⟨q, hq1, hq2, rfl⟩ := hrel
                by_cases hq : q < z + y
                · obtain ⟨b, off, rfl, hcs⟩ := HLW.out (by omega)
                  have hc := hcs q (by omega)
                  clear hcs
                  cases hfq : f q
                  · rw [hfq] at hc
                    gi_wp2
                    exact ⟨KeepsOthers.setCell _ _ _, rfl, fun hp => by have := (HRUN.out hp).2.2.2 q hq1 hq; rw [hfq] at this; exact absurd this (by decide)⟩
                  · rw [hfq] at hc
                    gi_wp2
                    go_round
                    case rel => exact ⟨q + 1, by omega, by omega, by go_num⟩
                    case measure => simp [intOf]; omega
                · obtain rfl : q = z + y := by omega
                  have HE : Hid ((Boxed ((W.setCell ⟨BS, 0, none⟩ (.int .i64 ((t : Int) + y))).setCell ⟨BS + 1, 0, none⟩ (.int .i64 ((z : Int) + y))) w.heap.size 25 (.slice lo j lc) ∧ Boxed ((W.setCell ⟨BS, 0, none⟩ (.int .i64 ((t : Int) + y))).setCell ⟨BS + 1, 0, none⟩ (.int .i64 ((z : Int) + y))) (w.heap.size + 1) 3 (.int .i64 (j : Int)) ∧ Boxed ((W.setCell ⟨BS, 0, none⟩ (.int .i64 ((t : Int) + y))).setCell ⟨BS + 1, 0, none⟩ (.int .i64 ((z : Int) + y))) (w.heap.size + 1 + 1) 4 (.bool false) ∧ Boxed ((W.setCell ⟨BS, 0, none⟩ (.int .i64 ((t : Int) + y))).setCell ⟨BS + 1, 0, none⟩ (.int .i64 ((z : Int) + y))) BS 3 (.int .i64 ((t : Int) + y)) ∧ Boxed ((W.setCell ⟨BS, 0, none⟩ (.int .i64 ((t : Int) + y))).setCell ⟨BS + 1, 0, none⟩ (.int .i64 ((z : Int) + y))) (BS + 1) 3 (.int .i64 ((z : Int) + y))) ∧ Below w.heap.size w ((W.setCell ⟨BS, 0, none⟩ (.int .i64 ((t : Int) + y))).setCell ⟨BS + 1, 0, none⟩ (.int .i64 ((z : Int) + y)))) :=
                    ⟨⟨(HBX.out.1.1.other (by omega) _).other (by omega) _, (HBX.out.1.2.1.other (by omega) _).other (by omega) _, (HBX.out.1.2.2.1.other (by omega) _).other (by omega) _, (Boxed.set _ HBX.out.1.2.2.2.1).other (by omega) _, Boxed.set _ (HBX.out.1.2.2.2.2.other (by omega) _)⟩, (HBX.out.2.setCell (p := ⟨BS, 0, none⟩) (by simp; omega) _).setCell (p := ⟨BS + 1, 0, none⟩) (by simp; omega) _⟩
                  clear HBX
                  gi_wp2
                  refine ⟨(KeepsOthers.setCell _ _ _).trans (KeepsOthers.setCell _ _ _), kp_t (kp_set W ⟨BS, 0, none⟩ _ (hS2 BS (by omega) (by omega))) (kp_set _ ⟨BS + 1, 0, none⟩ _ (hS2 (BS + 1) (by omega) (by omega))), ?_⟩
                  dsimp only
                  rw [HS.out.1, HS.out.2]
                  exact HE.out
      case done =>
        rintro D ys W hD rfl ⟨⟨hx0, hx1, hx2, hx3, hx4⟩, hB⟩ hK
        have hsum : sumM (rf f j) = many := ((sumM_eq fun r hr => by have := rf_bound (f := f) (n := j) r hr; omega).trans (rf_sum f j)).trans HMN.out
        rw [hsum] at hx3
        have hcmany : c = many := HCC.out.trans HMN.out
        subst hcmany
        have hpl : placeOf f c j = .tuple #[.int .i64 0, .int .i64 2] := by
          unfold placeOf
          rw [if_pos (pl_none (Nat.le_of_eq HMN.out))]
        have c1 := hx1.cell
        have HKW : Hid (Keeps w W (fun _ => False)) := Keeps.below_none hB
        gi_wp2_with fail
        refine ⟨trivial, ?_⟩
        gi_at_call 31
        refine (callsIn_wide.2 (HP.out c (by omega) _ HKW.out)).mono ?_
        rintro e w3 ⟨rfl, hk3⟩
        rw [hpl]
        have d1 := (box_keeps hx1 hk3 id).cell
        have d2 := (box_keeps hx2 hk3 id)
        have d3 := (box_keeps hx3 hk3 id).cell
        have HD2 : Hid (Boxed w3 (w.heap.size + 1 + 1) 4 (.bool false)) := d2
        have HKW3 : Hid (Keeps w w3 (fun _ => False)) := HKW.out.trans hk3 fun _ _ h => h
        have HK3 : Hid (w3.heap[D]? = some (.deferred (some []))) := (hk3.block D (Array.getElem?_eq_some_iff.1 hK).1 id).trans hK
        have e2 := d2.cell
        have g2 := d2.frozen
        clear hk3 hx0 hx1 hx2 hx3 hx4 hB hK hsum hpl c1 HKW d2
        by_cases hc0 : c = 0
        · have hnx : nextOf f true j = -1 := next_none (by rw [HMN.out]; exact hc0)
          subst hc0
          gi_wp2_with fail
          refine ⟨trivial, ?_⟩
          gi_at_call 21
          refine (callsIn_wide.2 (HX.out _ HKW3.out)).mono ?_
          rintro e w4 ⟨rfl, hk4⟩
          rw [hnx]
          have e2' := (box_keeps HD2.out hk4 id)
          have HD4 : Hid (Boxed w4 (w.heap.size + 1 + 1) 4 (.bool false)) := e2'
          have HKW4 : Hid (Keeps w w4 (fun _ => False)) := HKW3.out.trans hk4 fun _ _ h => h
          have HK4 : Hid (w4.heap[D]? = some (.deferred (some []))) := (hk4.block D (Array.getElem?_eq_some_iff.1 HK3.out).1 id).trans HK3.out
          have e4 := e2'.cell
          have g4 := e2'.frozen
          clear hk4 e2' e2 g2 d1 d3 HD2 HKW3 HK3 hnx
          gi_wp2
          have hK5 := (KeepsOthers.setCell w4 ⟨w.heap.size + 1 + 1, 0, none⟩ (.bool true)).same D _ HK4.out rfl
          have hb5 := Boxed.set (.bool true) HD4.out
          have hDne : w.heap.size + 1 + 1 ≠ D := by omega
          have hz5 := (hb5.kept (grownBy_putObj' _ D (.deferred none)) (fun e => hDne (by cases e; rfl))).cell
          have hk5 : Keeps w (w4.setCell ⟨w.heap.size + 1 + 1, 0, none⟩ (.bool true)) (fun _ => False) := HKW4.out.setCell (p := ⟨w.heap.size + 1 + 1, 0, none⟩) (fun h => by simp at h; omega) _
          refine ⟨by simp, .inl ⟨_, _, rfl, run_takeDeferred hK5, ?_⟩⟩
          refine ⟨.bool true, ?_, rfl, Keeps.below_none ((hk5.below' (Nat.le_refl _)).trans (belowK_b (w := w) (Nat.le_refl _) _ D _ _ (by omega) hK5 rfl rfl))⟩
          simp [results, Tryd.f23, go_sem, hz5]
        · have hc0' : (0 : Int) < (c : Int) := by omega
          gi_wp2
          refine ⟨trivial, ?_⟩
          gi_wp2
          have hK5 := (KeepsOthers.setCell w3 ⟨w.heap.size + 1 + 1, 0, none⟩ (.bool true)).same D _ HK3.out rfl
          have hb5 := Boxed.set (.bool true) HD2.out
          have hDne : w.heap.size + 1 + 1 ≠ D := by omega
          have hz5 := (hb5.kept (grownBy_putObj' _ D (.deferred none)) (fun e => hDne (by cases e; rfl))).cell
          have hk5 : Keeps w (w3.setCell ⟨w.heap.size + 1 + 1, 0, none⟩ (.bool true)) (fun _ => False) := HKW3.out.setCell (p := ⟨w.heap.size + 1 + 1, 0, none⟩) (fun h => by simp at h; omega) _
          refine ⟨by simp, .inl ⟨_, _, rfl, run_takeDeferred hK5, ?_⟩⟩
          refine ⟨.bool true, ?_, rfl, Keeps.below_none ((hk5.below' (Nat.le_refl _)).trans (belowK_b (w := w) (Nat.le_refl _) _ D _ _ (by omega) hK5 rfl rfl))⟩
          simp [results, Tryd.f23, go_sem, hz5]
      case stop =>
        rintro D c pre W hD hpre ⟨_, hno⟩ hK
        exact absurd hpre hno
end Go.Proofs.YteppfammimbmcaaDoor.Kit
