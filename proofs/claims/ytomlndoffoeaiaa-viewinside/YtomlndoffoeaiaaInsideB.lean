import Derived.Test.YtomlndoffoeaiaaInsideA
namespace Go.Proofs.Ytomlndoffoeaiaa.Kit
open Go.RowKit Go.Deep
set_option linter.unusedVariables false

theorem WatDone.none2 {w w' : World} {rs : List (Int × Int)} (h : WatDone w w' none none rs) : Keeps w w' (fun _ => False) := by
  obtain ⟨_, _, k, _⟩ := h
  exact k.mono fun _ _ e => by rcases e with e | e <;> cases e
theorem load_zero (ao : Option Addr) (n cap : Nat) (place : Int) (q gq : Option Nat) (rs : List (Int × Int)) (l : List Int) (m : Nat) (w : World) (hw : wideB m = true) (h : m ≤ n) (hI : Looks w ao n cap place q gq rs l) :
    Calls Try.prog 19 #[viewV ao n cap place q, .int .i64 0, .int .i64 m] w fun e w' => e = .returned (.tuple #[.int .u64 (leVal (l.take m)), .int .i64 0]) ∧ WatDone w w' q gq (tellR q rs place (place + m)) := by
  simpa using load_in ao n cap place q gq rs l 0 m w hw (by omega) hI
theorem sub_list (l : List Int) (a m t k : Nat) (h : t + k ≤ m) : (((l.drop a).take m).drop t).take k = (l.drop (a + t)).take k := by
  rw [List.drop_take, List.drop_drop, List.take_take, Nat.min_eq_left (by omega)]
theorem own_two {w : World} {g : Nat} {x y : Int} (h : OwnRow w g 50 (readCells [(x, y)])) : w.cell? ⟨g, 0, none⟩ = some (.int .i64 x) ∧ w.cell? ⟨g, 1, none⟩ = some (.int .i64 y) := ⟨h.cell (j := 0) rfl, h.cell (j := 1) rfl⟩
theorem tellR_some (q : Nat) (rs : List (Int × Int)) (a b : Int) (h : a < b) : tellR (some q) rs a b = rs ++ [(a, b)] := by simp [tellR, h]

set_option maxRecDepth 100000 in
set_option maxHeartbeats 8000000 in
theorem inside_in (ao : Option Addr) (n cap : Nat) (l : List Int) (a m t k : Nat) (w : World) (hC : Came w ao n cap l) (ham : a + m ≤ n) (hw : wideB k = true) (htk : t + k ≤ m) :
    Calls Try.prog 4 #[.slice ao n cap, .agg #[.int .i64 a, .int .i64 m, .int .i64 t, .int .i64 k]] w fun e w' => e = .returned (.bool true) ∧ Below w.heap.size w w' := by
  have HC : Hid (Came w ao n cap l) := hC
  have hn := hC.small
  have hk := (wideB_iff k).1 hw
  have hk0 : 0 < k ∧ k ≤ 8 := by omega
  obtain ⟨hk0, hk8⟩ := hk0
  clear hk
  clear hC
  go_enter Try.func4, Try.ntmps4
  go_wp2
  go_quiet (fail)
  go_wp2_with fail
  go_at_call 13
  obtain ⟨W0, hW0⟩ : ∃ W0, W0 = (w.alloc (.cells #[.int .i64 a, .int .i64 m, .int .i64 t, .int .i64 k] 33)).drewN nq := ⟨_, rfl⟩
  rw [← hW0]
  have HK0 : Hid (Keeps w W0 (fun _ => False)) := by rw [hW0]; exact ((Keeps.refl _ _).alloc _).drewN _
  clear hW0
  obtain ⟨q, hq⟩ : ∃ q, q = W0.heap.size := ⟨_, rfl⟩
  have hnw := newWatch_any W0
  rw [← hq] at hnw
  refine hnw.mono ?_
  rintro e w1 ⟨rfl, hw1⟩
  have HR1 : Hid (Room w w1 q none []) := by
    rw [hw1, hq]
    exact ⟨WatchAt.new W0, HK0.out.size, (fun _ h => by cases h), HK0.out.trans (Keeps.none_alloc W0 _) fun _ _ h => h⟩
  clear hnw hw1 hq HK0
  go_wp2_with fail
  go_at_call 14
  refine (of_any ao n cap _).mono ?_
  rintro e w2 ⟨rfl, K2⟩
  have HR2 : Hid (Room w w2 q none []) := HR1.out.kept K2
  clear K2 HR1
  unfold viewV
  go_wp2_with fail
  go_at_call 15
  refine (watched_any ao n cap 0 none (some q) _).mono ?_
  rintro e w3 ⟨rfl, K3⟩
  have HR3 : Hid (Room w w3 q none []) := HR2.out.kept K3
  clear K3 HR2
  unfold viewV
  go_wp2_with fail
  go_at_call 16
  obtain ⟨W3, hW3⟩ : ∃ W3, W3 = w3.alloc (.cells #[.slice ao n cap, .int .i64 0, .pointer (some ⟨q, 0, none⟩)] 37) := ⟨_, rfl⟩
  rw [← hW3]
  obtain ⟨V, hV⟩ : ∃ V, V = w3.heap.size := ⟨_, rfl⟩
  have HV3 : Hid (W3.heap[V]? = some (.cells #[.slice ao n cap, .int .i64 0, .pointer (some ⟨q, 0, none⟩)] 37 (0, 0))) := by rw [hV, hW3]; exact heap_alloc_new w3 _
  have HR3' : Hid (Room w W3 q none []) := by rw [hW3]; exact HR3.out.kept (Keeps.none_alloc w3 _)
  rw [← hV]
  clear hW3 hV HR3
  refine (vlen_any ao n cap 0 (some q) _).mono ?_
  rintro e w4 ⟨rfl, K4⟩
  have HR4 : Hid (Room w w4 q none []) := HR3'.out.kept K4
  have HV4 : Hid (w4.heap[V]? = some (.cells #[.slice ao n cap, .int .i64 0, .pointer (some ⟨q, 0, none⟩)] 37 (0, 0))) := box_kept HV3.out K4
  clear K4 HR3' HV3
  obtain ⟨v0, v1, v2⟩ := box_cells3 HV4.out
  go_wp2_with fail
  go_at_call 17
  refine (part_in ao n cap 0 (some q) a m _ HC.out.form ham ⟨by omega, by omega⟩).mono ?_
  rintro e w5 ⟨⟨ao', cap', rfl, hs5, hsub5, hin5⟩, K5⟩
  have HR5 : Hid (Room w w5 q none []) := HR4.out.kept K5
  have HV5 : Hid (w5.heap[V]? = some (.cells #[.slice ao n cap, .int .i64 0, .pointer (some ⟨q, 0, none⟩)] 37 (0, 0))) := box_kept HV4.out K5
  have HLK : Hid (∀ wr gq rs, rs.length ≤ 1000000000000 → Room w wr q gq rs → Looks wr ao' m cap' (a : Int) (some q) gq rs ((l.drop a).take m)) := fun wr gq rs h hr => by have := HC.out.looks hr h hs5 hsub5 hin5 ham; rwa [Int.zero_add] at this
  have HS5 : Hid (SForm ao' m cap' ∧ (∀ W l, BytesAt W ao n l → BytesAt W ao' m ((l.drop a).take m)) ∧ ∀ b off, ao' = some ⟨b, off, none⟩ → 0 < m → ∃ off0, ao = some ⟨b, off0, none⟩) := ⟨hs5, hsub5, hin5⟩
  clear K5 HR4 HV4 v0 v1 v2 hs5 hsub5 hin5
  unfold viewV
  have hz : (0 : Int) + (a : Int) = a := by omega
  go_wp2_with fail
  go_at_call 18
  obtain ⟨W5, hW5⟩ : ∃ W5, W5 = w5.alloc (.cells #[.slice ao' m cap', .int .i64 a, .pointer (some ⟨q, 0, none⟩)] 37) := ⟨_, rfl⟩
  rw [← hW5]
  obtain ⟨B, hB⟩ : ∃ B, B = w5.heap.size := ⟨_, rfl⟩
  have HB5 : Hid (W5.heap[B]? = some (.cells #[.slice ao' m cap', .int .i64 a, .pointer (some ⟨q, 0, none⟩)] 37 (0, 0))) := by rw [hB, hW5]; exact heap_alloc_new w5 _
  have HR5' : Hid (Room w W5 q none []) := by rw [hW5]; exact HR5.out.kept (Keeps.none_alloc w5 _)
  rw [← hB]
  clear hW5 hB HR5
  refine (reads_any q none [] _ HR5'.out.wat (by simp)).mono ?_
  rintro e w6 ⟨rfl, hO6, hB6⟩
  have HR6 : Hid (Room w w6 q none []) := HR5'.out.kept (Keeps.below_none hB6)
  have HB6 : Hid (w6.heap[B]? = some (.cells #[.slice ao' m cap', .int .i64 a, .pointer (some ⟨q, 0, none⟩)] 37 (0, 0))) := box_kept HB5.out (Keeps.below_none hB6)
  clear hO6 hB6 HR5' HB5 HV5
  obtain ⟨p0, p1, p2⟩ := box_cells3 HB6.out
  go_wp2_with fail
  go_at_call 19
  refine (load_in ao' m cap' a (some q) none [] ((l.drop a).take m) t k _ hw htk (HLK.out _ _ _ (by simp) HR6.out)).mono ?_
  rintro e w7 ⟨rfl, D7⟩
  rw [tellR_some q [] _ _ (by omega)] at D7
  rw [sub_list l a m t k htk]
  obtain ⟨X, hX⟩ : ∃ X, X = leVal ((l.drop (a + t)).take k) := ⟨_, rfl⟩
  have HX : Hid (leVal ((l.drop (a + t)).take k) = X) := hX.symm
  rw [← hX]
  clear hX
  have HB7 : Hid (w7.heap[B]? = some (.cells #[.slice ao' m cap', .int .i64 a, .pointer (some ⟨q, 0, none⟩)] 37 (0, 0))) := HR6.out.box D7 HB6.out
  obtain ⟨g7, hR7⟩ := HR6.out.step D7
  have HR7 : Hid (Room w w7 q g7 [((a : Int) + t, (a : Int) + t + k)]) := hR7
  clear D7 hR7 HR6 HB6 p0 p1 p2
  go_wp2_with fail
  go_at_call 18
  obtain ⟨G, hG⟩ : ∃ G, G = w7.heap.size := ⟨_, rfl⟩
  have hrd := reads_any q g7 [((a : Int) + t, (a : Int) + t + k)] w7 HR7.out.wat (by simp)
  rw [← hG] at hrd
  refine hrd.mono ?_
  rintro e w8 ⟨rfl, hO8, hB8⟩
  rw [hG] at hB8
  have HR8 : Hid (Room w w8 q g7 [((a : Int) + t, (a : Int) + t + k)]) := HR7.out.kept (Keeps.below_none hB8)
  have HB8 : Hid (w8.heap[B]? = some (.cells #[.slice ao' m cap', .int .i64 a, .pointer (some ⟨q, 0, none⟩)] 37 (0, 0))) := box_kept HB7.out (Keeps.below_none hB8)
  have HO8 : Hid (OwnRow w8 G 50 (readCells [((a : Int) + t, (a : Int) + t + k)])) := hO8
  clear hO8 hB8 hrd hG HR7 HB7
  obtain ⟨p0, p1, p2⟩ := box_cells3 HB8.out
  go_wp2_with fail
  go_at_call 16
  refine (vlen_any ao' m cap' a (some q) _).mono ?_
  rintro e w9 ⟨rfl, K9⟩
  have HR9 : Hid (Room w w9 q g7 [((a : Int) + t, (a : Int) + t + k)]) := HR8.out.kept K9
  have HB9 : Hid (w9.heap[B]? = some (.cells #[.slice ao' m cap', .int .i64 a, .pointer (some ⟨q, 0, none⟩)] 37 (0, 0))) := box_kept HB8.out K9
  obtain ⟨o0, o1⟩ := own_two (HO8.out.kept K9 id)
  clear K9 HR8 HB8 HO8 p0 p1 p2
  go_wp2_with fail
  go_at_call 14
  refine (of_any ao n cap _).mono ?_
  rintro e w10 ⟨rfl, K10⟩
  have HR10 : Hid (Room w w10 q g7 [((a : Int) + t, (a : Int) + t + k)]) := HR9.out.kept K10
  have HB10 : Hid (w10.heap[B]? = some (.cells #[.slice ao' m cap', .int .i64 a, .pointer (some ⟨q, 0, none⟩)] 37 (0, 0))) := box_kept HB9.out K10
  clear K10 HR9 HB9 o0 o1
  unfold viewV
  go_wp2_with fail
  go_at_call 19
  have hld := load_in ao n cap 0 none none [] l (a + t) k w10 hw (by omega) (HC.out.plain HR10.out.keep)
  rw [HX.out, Int.natCast_add] at hld
  refine hld.mono ?_
  rintro e w11 ⟨rfl, D11⟩
  have HR11 : Hid (Room w w11 q g7 [((a : Int) + t, (a : Int) + t + k)]) := HR10.out.kept D11.none2
  have HB11 : Hid (w11.heap[B]? = some (.cells #[.slice ao' m cap', .int .i64 a, .pointer (some ⟨q, 0, none⟩)] 37 (0, 0))) := box_kept HB10.out D11.none2
  clear hld D11 HR10 HB10
  obtain ⟨p0, p1, p2⟩ := box_cells3 HB11.out
  go_wp2_with fail
  go_at_call 20
  have hsg := signed_in ao' m cap' a (some q) g7 _ ((l.drop a).take m) t k w11 hw htk (HLK.out _ _ _ (by simp) HR11.out)
  rw [sub_list l a m t k htk, HX.out, tellR_some q _ _ _ (by omega)] at hsg
  refine hsg.mono ?_
  rintro e w12 ⟨rfl, D12⟩
  have HB12 : Hid (w12.heap[B]? = some (.cells #[.slice ao' m cap', .int .i64 a, .pointer (some ⟨q, 0, none⟩)] 37 (0, 0))) := HR11.out.box D12 HB11.out
  obtain ⟨g12, hR12⟩ := HR11.out.step D12
  obtain ⟨rs, hrs⟩ : ∃ rs, rs = [((a : Int) + t, (a : Int) + t + k)] ++ [((a : Int) + t, (a : Int) + t + k)] := ⟨_, rfl⟩
  rw [← hrs] at hR12
  have hrl : rs.length ≤ 1000000000000 := by rw [hrs]; simp
  have HR12 : Hid (Room w w12 q g12 rs) := hR12
  clear hsg D12 hR12 HR11 HB11 p0 p1 p2 hrs
  obtain ⟨z, hz'⟩ : ∃ z, z = signV X k := ⟨_, rfl⟩
  rw [← hz']
  have HZ : Hid (signV X k = z) := hz'.symm
  clear hz'
  go_wp2_with fail
  go_at_call 14
  refine (of_any ao n cap _).mono ?_
  rintro e w13 ⟨rfl, K13⟩
  have HR13 : Hid (Room w w13 q g12 rs) := HR12.out.kept K13
  have HB13 : Hid (w13.heap[B]? = some (.cells #[.slice ao' m cap', .int .i64 a, .pointer (some ⟨q, 0, none⟩)] 37 (0, 0))) := box_kept HB12.out K13
  clear K13 HR12 HB12
  unfold viewV
  go_wp2_with fail
  go_at_call 20
  have hsg2 := signed_in ao n cap 0 none none [] l (a + t) k w13 hw (by omega) (HC.out.plain HR13.out.keep)
  rw [HX.out, HZ.out, Int.natCast_add] at hsg2
  refine hsg2.mono ?_
  rintro e w14 ⟨rfl, D14⟩
  have HR14 : Hid (Room w w14 q g12 rs) := HR13.out.kept D14.none2
  have HB14 : Hid (w14.heap[B]? = some (.cells #[.slice ao' m cap', .int .i64 a, .pointer (some ⟨q, 0, none⟩)] 37 (0, 0))) := box_kept HB13.out D14.none2
  clear hsg2 D14 HR13 HB13
  obtain ⟨p0, p1, p2⟩ := box_cells3 HB14.out
  go_wp2_with fail
  go_at_call 17
  refine (part_in ao' m cap' a (some q) t k _ HS5.out.1 htk ⟨by omega, by omega⟩).mono ?_
  rintro e w15 ⟨⟨ao2, cap2, rfl, hs15, hsub15, hin15⟩, K15⟩
  have HR15 : Hid (Room w w15 q g12 rs) := HR14.out.kept K15
  have HLK2 : Hid (∀ wr, Room w wr q g12 rs → Looks wr ao2 k cap2 ((a : Int) + t) (some q) g12 rs ((l.drop (a + t)).take k)) := by
    intro wr hr
    have := HC.out.looks (a := a + t) (m := k) hr hrl hs15 (fun W l' hl' => by rw [← sub_list l' a m t k htk]; exact hsub15 W _ (HS5.out.2.1 W l' hl')) (fun b off e hk => by obtain ⟨off0, e0⟩ := hin15 b off e hk; exact HS5.out.2.2 b off0 e0 (by omega)) (by omega)
    rwa [Int.zero_add, Int.natCast_add] at this
  clear K15 HR14 HB14 p0 p1 p2 hs15 hsub15 hin15
  unfold viewV
  go_wp2_with fail
  go_at_call 19
  obtain ⟨W15, hW15⟩ : ∃ W15, W15 = w15.alloc (.cells #[.slice ao2 k cap2, .int .i64 ((a : Int) + t), .pointer (some ⟨q, 0, none⟩)] 37) := ⟨_, rfl⟩
  rw [← hW15]
  have HRW : Hid (Room w W15 q g12 rs) := by rw [hW15]; exact HR15.out.kept (Keeps.none_alloc w15 _)
  clear hW15
  have hl0 := load_zero ao2 k cap2 ((a : Int) + t) (some q) g12 rs _ k W15 hw (Nat.le_refl _) (HLK2.out W15 HRW.out)
  rw [List.take_take, Nat.min_self, HX.out] at hl0
  refine hl0.mono ?_
  rintro e w16 ⟨rfl, D16⟩
  obtain ⟨g16, hR16⟩ := HRW.out.step D16
  have HK16 : Hid (Keeps w w16 (fun _ => False)) := hR16.keep
  clear hl0 D16 hR16 HRW HR15
  go_wp2_with (first | (go_at_call 13; refine (newWatch_any _).mono ?_; rintro e w17 ⟨rfl, rfl⟩) | (go_at_call 18; refine (reads_any _ none [] _ (WatchAt.new _) (by simp)).mono ?_; rintro e w18 ⟨rfl, hO18, hB18⟩))
  go_ret
  exact ⟨rfl, ((HK16.out.trans (Keeps.none_alloc w16 _) fun _ _ h => h).trans (Keeps.below_none hB18) fun _ _ h => h).below (fun _ _ h => h.elim) (Nat.le_refl _)⟩

end Go.Proofs.Ytomlndoffoeaiaa.Kit
