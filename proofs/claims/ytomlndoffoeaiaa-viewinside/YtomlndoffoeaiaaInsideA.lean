import Derived.Test.YtomlndoffoeaiaaViewF
namespace Go.Proofs.Ytomlndoffoeaiaa.Kit
open Go.RowKit Go.Deep
set_option linter.unusedVariables false

/-- a watch of the law's own, and the bytes that came in -/
structure Room (w wr : World) (q : Nat) (gq : Option Nat) (rs : List (Int × Int)) : Prop where
  wat : WatchAt wr q gq rs
  hq : w.heap.size ≤ q
  hg : ∀ g, gq = some g → w.heap.size ≤ g
  keep : Keeps w wr (fun _ => False)

theorem Room.kept {w wr w' : World} {q : Nat} {gq : Option Nat} {rs : List (Int × Int)} (h : Room w wr q gq rs) (hk : Keeps wr w' (fun _ => False)) : Room w w' q gq rs :=
  { h with wat := h.wat.kept hk id (fun _ _ => id), keep := h.keep.trans hk fun _ _ h => h }
theorem Room.step {w wr w' : World} {q : Nat} {gq : Option Nat} {rs rs' : List (Int × Int)} (h : Room w wr q gq rs) (hd : WatDone wr w' (some q) gq rs') : ∃ gq', Room w w' q gq' rs' := by
  obtain ⟨g', i', k', b'⟩ := hd
  refine ⟨g', i', h.hq, fun g hg => ?_, h.keep.trans k' fun j hj e => ?_⟩
  · rcases b' with e | e
    · exact h.hg g (e ▸ hg)
    · have := e g hg; have := h.keep.size; omega
  · rcases e with e | e
    · have := h.hq; have : q = j := by simpa using e
      omega
    · have := h.hg j e; omega
/-- a box of a view stays -/
theorem Room.box {w wr w' : World} {q B : Nat} {gq : Option Nat} {rs rs' : List (Int × Int)} {cs : Array Value} (h : Room w wr q gq rs) (hd : WatDone wr w' (some q) gq rs') (hB : wr.heap[B]? = some (.cells cs 37 (0, 0))) : w'.heap[B]? = some (.cells cs 37 (0, 0)) := by
  obtain ⟨g', i', k', b'⟩ := hd
  rw [k'.block B (Array.getElem?_eq_some_iff.1 hB).1]
  · exact hB
  · intro e
    obtain ⟨v, hv, hown, hb⟩ := h.wat
    rcases e with e | e
    · have e : q = B := by simpa using e
      subst e
      rw [hB] at hv
      simp at hv
    · exact own2_ne (ty := 37) (by decide) hB hown (hb.trans e)
theorem box_kept {wr w' : World} {B : Nat} {cs : Array Value} (hB : wr.heap[B]? = some (.cells cs 37 (0, 0))) (hk : Keeps wr w' (fun _ => False)) : w'.heap[B]? = some (.cells cs 37 (0, 0)) := by
  rw [hk.block B (Array.getElem?_eq_some_iff.1 hB).1 id]; exact hB
theorem box_cells3 {w : World} {B : Nat} {x y z : Value} (hB : w.heap[B]? = some (.cells #[x, y, z] 37 (0, 0))) : w.cell? ⟨B, 0, none⟩ = some x ∧ w.cell? ⟨B, 1, none⟩ = some y ∧ w.cell? ⟨B, 2, none⟩ = some z := by
  refine ⟨?_, ?_, ?_⟩
  · rw [cell_of_row _ _ 0 _ _ _ hB]; rfl
  · rw [cell_of_row _ _ 1 _ _ _ hB]; rfl
  · rw [cell_of_row _ _ 2 _ _ _ hB]; rfl

/-- the bytes that came in -/
structure Came (w : World) (ao : Option Addr) (n cap : Nat) (l : List Int) : Prop where
  form : SForm ao n cap
  bytes : BytesAt w ao n l
  len : l.length = n
  byte : ∀ c ∈ l, 0 ≤ c ∧ c < 256
  small : n ≤ 140737488351232

theorem Came.block {w : World} {ao : Option Addr} {n cap : Nat} {l : List Int} (h : Came w ao n cap l) {b off : Nat} (e : ao = some ⟨b, off, none⟩) (hn : 0 < n) : b < w.heap.size := by
  obtain ⟨b', off', e', hc⟩ := h.bytes hn
  have e2 := e.symm.trans e'
  simp only [Option.some.injEq, Addr.mk.injEq, and_true] at e2
  have := block_lt_of_cell (hc 0 hn)
  simp at this
  omega

theorem Came.plain {w wr : World} {ao : Option Addr} {n cap : Nat} {l : List Int} (h : Came w ao n cap l) (hk : Keeps w wr (fun _ => False)) : Looks wr ao n cap 0 none none [] l :=
  ⟨h.form, h.bytes.kept hk (fun _ _ _ _ => id), h.len, h.byte, ⟨rfl, rfl⟩, ⟨by omega, by have := h.small; omega⟩, by simp, fun _ _ _ _ => ⟨by simp, by simp⟩⟩
theorem Came.looks {w wr : World} {ao : Option Addr} {n cap q : Nat} {gq : Option Nat} {rs : List (Int × Int)} {l : List Int} (h : Came w ao n cap l) (hr : Room w wr q gq rs) (hrs : rs.length ≤ 1000000000000) {ao' : Option Addr} {cap' a m : Nat} (hf : SForm ao' m cap')
    (hsub : ∀ W l, BytesAt W ao n l → BytesAt W ao' m ((l.drop a).take m)) (hin : ∀ b off, ao' = some ⟨b, off, none⟩ → 0 < m → ∃ off0, ao = some ⟨b, off0, none⟩) (ham : a + m ≤ n) : Looks wr ao' m cap' (0 + (a : Int)) (some q) gq rs ((l.drop a).take m) := by
  refine ⟨hf, hsub wr l (h.bytes.kept hr.keep (fun _ _ _ _ => id)), by rw [List.length_take, List.length_drop, h.len]; omega, fun c hc => h.byte c (List.mem_of_mem_drop (List.mem_of_mem_take hc)), hr.wat, ⟨by omega, by have := h.small; omega⟩, hrs, fun b off e hm => ?_⟩
  obtain ⟨off0, e0⟩ := hin b off e hm
  have hb := h.block e0 (by omega)
  have h1 := hr.hq
  refine ⟨fun x => ?_, fun x => ?_⟩
  · have : q = b := by simpa using x
    omega
  · have := hr.hg b x; omega

set_option maxRecDepth 100000 in
set_option maxHeartbeats 4000000 in
theorem inside_out (ao : Option Addr) (n cap : Nat) (l : List Int) (fr nn at' wd : Int) (w : World) (hC : Came w ao n cap l) (b1 : -9223372036854775808 ≤ fr) (b2 : fr ≤ 9223372036854775807) (b3 : -9223372036854775808 ≤ nn) (b4 : nn ≤ 9223372036854775807)
    (hout : ¬ (0 ≤ fr ∧ 0 ≤ nn ∧ fr + nn ≤ n)) :
    Calls Try.prog 4 #[.slice ao n cap, .agg #[.int .i64 fr, .int .i64 nn, .int .i64 at', .int .i64 wd]] w fun e w' => e = .returned (.bool true) ∧ Below w.heap.size w w' := by
  have HC : Hid (Came w ao n cap l) := hC
  have hn := hC.small
  have HO : Hid (¬ (0 ≤ fr ∧ 0 ≤ nn ∧ fr + nn ≤ n)) := hout
  clear hC hout
  go_enter Try.func4, Try.ntmps4
  go_wp2
  go_quiet (fail)
  go_wp2_with fail
  go_at_call 13
  obtain ⟨W0, hW0⟩ : ∃ W0, W0 = (w.alloc (.cells #[.int .i64 fr, .int .i64 nn, .int .i64 at', .int .i64 wd] 33)).drewN nq := ⟨_, rfl⟩
  rw [← hW0]
  have HK0 : Hid (Keeps w W0 (fun _ => False)) := by rw [hW0]; exact ((Keeps.refl _ _).alloc _).drewN _
  clear hW0
  obtain ⟨q, hq⟩ : ∃ q, q = W0.heap.size := ⟨_, rfl⟩
  have hnw := newWatch_any W0
  rw [← hq] at hnw
  refine hnw.mono ?_
  rintro e w1 ⟨rfl, hw1⟩
  have HR1 : Hid (Room w w1 q none []) := by
    rw [hw1, hq]
    exact ⟨WatchAt.new W0, HK0.out.size, (fun _ h => by cases h), HK0.out.trans (Keeps.none_alloc W0 _) fun _ _ h => h⟩
  clear hnw hw1 hq HK0
  go_wp2_with fail
  go_at_call 14
  refine (of_any ao n cap _).mono ?_
  rintro e w2 ⟨rfl, K2⟩
  have HR2 : Hid (Room w w2 q none []) := HR1.out.kept K2
  clear K2 HR1
  unfold viewV
  go_wp2_with fail
  go_at_call 15
  refine (watched_any ao n cap 0 none (some q) _).mono ?_
  rintro e w3 ⟨rfl, K3⟩
  have HR3 : Hid (Room w w3 q none []) := HR2.out.kept K3
  clear K3 HR2
  unfold viewV
  go_wp2_with fail
  go_at_call 16
  obtain ⟨W3, hW3⟩ : ∃ W3, W3 = w3.alloc (.cells #[.slice ao n cap, .int .i64 0, .pointer (some ⟨q, 0, none⟩)] 37) := ⟨_, rfl⟩
  rw [← hW3]
  obtain ⟨V, hV⟩ : ∃ V, V = w3.heap.size := ⟨_, rfl⟩
  have HV3 : Hid (W3.heap[V]? = some (.cells #[.slice ao n cap, .int .i64 0, .pointer (some ⟨q, 0, none⟩)] 37 (0, 0))) := by rw [hV, hW3]; exact heap_alloc_new w3 _
  have HR3' : Hid (Room w W3 q none []) := by rw [hW3]; exact HR3.out.kept (Keeps.none_alloc w3 _)
  rw [← hV]
  clear hW3 hV HR3
  refine (vlen_any ao n cap 0 (some q) _).mono ?_
  rintro e w4 ⟨rfl, K4⟩
  have HR4 : Hid (Room w w4 q none []) := HR3'.out.kept K4
  have HV4 : Hid (w4.heap[V]? = some (.cells #[.slice ao n cap, .int .i64 0, .pointer (some ⟨q, 0, none⟩)] 37 (0, 0))) := box_kept HV3.out K4
  clear K4 HR3' HV3
  obtain ⟨v0, v1, v2⟩ := box_cells3 HV4.out
  go_wp2_with fail
  go_at_call 17
  refine (part_out ao n cap 0 (some q) fr nn _ HO.out).mono ?_
  rintro e w5 ⟨rfl, K5⟩
  have HR5 : Hid (Room w w5 q none []) := HR4.out.kept K5
  clear K5 HR4 HV4 v0 v1 v2
  unfold viewV
  have hcs : fr < 0 ∨ (0 ≤ fr ∧ nn < 0) ∨ (0 ≤ fr ∧ 0 ≤ nn ∧ (n : Int) < fr) ∨ (0 ≤ fr ∧ 0 ≤ nn ∧ fr ≤ n ∧ (n : Int) - fr < nn) := by have := HO.out; omega
  rcases hcs with c1 | ⟨c1, c2⟩ | ⟨c1, c2, c3⟩ | ⟨c1, c2, c3, c4⟩
  all_goals
    try (have hd4 : decide (nn ≤ (n : Int) - fr) = false := decide_eq_false (by omega))
    go_wp2_with (first | (go_at_call 18; refine (reads_any q none [] _ (HR5.out.kept (Keeps.none_alloc w5 _)).wat (by simp)).mono ?_; rintro e w6 ⟨rfl, hO6, hB6⟩))
    go_ret
    exact ⟨rfl, ((HR5.out.kept (Keeps.none_alloc w5 _)).kept (Keeps.below_none hB6)).keep.below (fun _ _ h => h.elim) (Nat.le_refl _)⟩

set_option maxRecDepth 100000 in
set_option maxHeartbeats 8000000 in
theorem inside_arg (ao : Option Addr) (n cap : Nat) (l : List Int) (a m : Nat) (at' wd : Int) (w : World) (hC : Came w ao n cap l) (ham : a + m ≤ n) (b1 : -9223372036854775808 ≤ at') (b2 : at' ≤ 9223372036854775807) (b3 : -9223372036854775808 ≤ wd) (b4 : wd ≤ 9223372036854775807) (hw : wideB wd = false) :
    Calls Try.prog 4 #[.slice ao n cap, .agg #[.int .i64 a, .int .i64 m, .int .i64 at', .int .i64 wd]] w fun e w' => e = .returned (.bool true) ∧ Below w.heap.size w w' := by
  have HC : Hid (Came w ao n cap l) := hC
  have hn := hC.small
  clear hC
  go_enter Try.func4, Try.ntmps4
  go_wp2
  go_quiet (fail)
  go_wp2_with fail
  go_at_call 13
  obtain ⟨W0, hW0⟩ : ∃ W0, W0 = (w.alloc (.cells #[.int .i64 a, .int .i64 m, .int .i64 at', .int .i64 wd] 33)).drewN nq := ⟨_, rfl⟩
  rw [← hW0]
  have HK0 : Hid (Keeps w W0 (fun _ => False)) := by rw [hW0]; exact ((Keeps.refl _ _).alloc _).drewN _
  clear hW0
  obtain ⟨q, hq⟩ : ∃ q, q = W0.heap.size := ⟨_, rfl⟩
  have hnw := newWatch_any W0
  rw [← hq] at hnw
  refine hnw.mono ?_
  rintro e w1 ⟨rfl, hw1⟩
  have HR1 : Hid (Room w w1 q none []) := by
    rw [hw1, hq]
    exact ⟨WatchAt.new W0, HK0.out.size, (fun _ h => by cases h), HK0.out.trans (Keeps.none_alloc W0 _) fun _ _ h => h⟩
  clear hnw hw1 hq HK0
  go_wp2_with fail
  go_at_call 14
  refine (of_any ao n cap _).mono ?_
  rintro e w2 ⟨rfl, K2⟩
  have HR2 : Hid (Room w w2 q none []) := HR1.out.kept K2
  clear K2 HR1
  unfold viewV
  go_wp2_with fail
  go_at_call 15
  refine (watched_any ao n cap 0 none (some q) _).mono ?_
  rintro e w3 ⟨rfl, K3⟩
  have HR3 : Hid (Room w w3 q none []) := HR2.out.kept K3
  clear K3 HR2
  unfold viewV
  go_wp2_with fail
  go_at_call 16
  obtain ⟨W3, hW3⟩ : ∃ W3, W3 = w3.alloc (.cells #[.slice ao n cap, .int .i64 0, .pointer (some ⟨q, 0, none⟩)] 37) := ⟨_, rfl⟩
  rw [← hW3]
  obtain ⟨V, hV⟩ : ∃ V, V = w3.heap.size := ⟨_, rfl⟩
  have HV3 : Hid (W3.heap[V]? = some (.cells #[.slice ao n cap, .int .i64 0, .pointer (some ⟨q, 0, none⟩)] 37 (0, 0))) := by rw [hV, hW3]; exact heap_alloc_new w3 _
  have HR3' : Hid (Room w W3 q none []) := by rw [hW3]; exact HR3.out.kept (Keeps.none_alloc w3 _)
  rw [← hV]
  clear hW3 hV HR3
  refine (vlen_any ao n cap 0 (some q) _).mono ?_
  rintro e w4 ⟨rfl, K4⟩
  have HR4 : Hid (Room w w4 q none []) := HR3'.out.kept K4
  have HV4 : Hid (w4.heap[V]? = some (.cells #[.slice ao n cap, .int .i64 0, .pointer (some ⟨q, 0, none⟩)] 37 (0, 0))) := box_kept HV3.out K4
  clear K4 HR3' HV3
  obtain ⟨v0, v1, v2⟩ := box_cells3 HV4.out
  go_wp2_with fail
  go_at_call 17
  refine (part_in ao n cap 0 (some q) a m _ HC.out.form ham ⟨by omega, by omega⟩).mono ?_
  rintro e w5 ⟨⟨ao', cap', rfl, hs5, hsub5, hin5⟩, K5⟩
  have HR5 : Hid (Room w w5 q none []) := HR4.out.kept K5
  have HV5 : Hid (w5.heap[V]? = some (.cells #[.slice ao n cap, .int .i64 0, .pointer (some ⟨q, 0, none⟩)] 37 (0, 0))) := box_kept HV4.out K5
  have HLK : Hid (∀ wr gq rs, rs.length ≤ 1000000000000 → Room w wr q gq rs → Looks wr ao' m cap' (a : Int) (some q) gq rs ((l.drop a).take m)) := fun wr gq rs h hr => by have := HC.out.looks hr h hs5 hsub5 hin5 ham; rwa [Int.zero_add] at this
  have HS5 : Hid (SForm ao' m cap' ∧ (∀ W l, BytesAt W ao n l → BytesAt W ao' m ((l.drop a).take m)) ∧ ∀ b off, ao' = some ⟨b, off, none⟩ → 0 < m → ∃ off0, ao = some ⟨b, off0, none⟩) := ⟨hs5, hsub5, hin5⟩
  clear K5 HR4 HV4 v0 v1 v2 hs5 hsub5 hin5
  unfold viewV
  have hz : (0 : Int) + (a : Int) = a := by omega
  go_wp2_with fail
  go_at_call 18
  obtain ⟨W5, hW5⟩ : ∃ W5, W5 = w5.alloc (.cells #[.slice ao' m cap', .int .i64 a, .pointer (some ⟨q, 0, none⟩)] 37) := ⟨_, rfl⟩
  rw [← hW5]
  obtain ⟨B, hB⟩ : ∃ B, B = w5.heap.size := ⟨_, rfl⟩
  have HB5 : Hid (W5.heap[B]? = some (.cells #[.slice ao' m cap', .int .i64 a, .pointer (some ⟨q, 0, none⟩)] 37 (0, 0))) := by rw [hB, hW5]; exact heap_alloc_new w5 _
  have HR5' : Hid (Room w W5 q none []) := by rw [hW5]; exact HR5.out.kept (Keeps.none_alloc w5 _)
  rw [← hB]
  clear hW5 hB HR5
  refine (reads_any q none [] _ HR5'.out.wat (by simp)).mono ?_
  rintro e w6 ⟨rfl, hO6, hB6⟩
  have HR6 : Hid (Room w w6 q none []) := HR5'.out.kept (Keeps.below_none hB6)
  have HB6 : Hid (w6.heap[B]? = some (.cells #[.slice ao' m cap', .int .i64 a, .pointer (some ⟨q, 0, none⟩)] 37 (0, 0))) := box_kept HB5.out (Keeps.below_none hB6)
  clear hO6 hB6 HR5' HB5 HV5
  obtain ⟨p0, p1, p2⟩ := box_cells3 HB6.out
  go_wp2_with fail
  go_at_call 19
  refine (load_arg ao' m cap' a (some q) at' wd _ hw).mono ?_
  rintro e w7 ⟨rfl, K7⟩
  have HR7 : Hid (Room w w7 q none []) := HR6.out.kept K7
  clear K7 HR6 HB6 p0 p1 p2 HLK HS5
  go_wp2_with (first | (go_at_call 18; refine (reads_any q none [] _ HR7.out.wat (by simp)).mono ?_; rintro e w8 ⟨rfl, hO8, hB8⟩))
  go_ret
  exact ⟨rfl, (HR7.out.kept (Keeps.below_none hB8)).keep.below (fun _ _ h => h.elim) (Nat.le_refl _)⟩

set_option maxRecDepth 100000 in
set_option maxHeartbeats 8000000 in
theorem inside_lout (ao : Option Addr) (n cap : Nat) (l : List Int) (a m : Nat) (at' wd : Int) (w : World) (hC : Came w ao n cap l) (ham : a + m ≤ n) (b1 : -9223372036854775808 ≤ at') (b2 : at' ≤ 9223372036854775807) (b3 : -9223372036854775808 ≤ wd) (b4 : wd ≤ 9223372036854775807) (hw : wideB wd = true) (hout : ¬ (0 ≤ at' ∧ 0 ≤ wd ∧ at' + wd ≤ m)) :
    Calls Try.prog 4 #[.slice ao n cap, .agg #[.int .i64 a, .int .i64 m, .int .i64 at', .int .i64 wd]] w fun e w' => e = .returned (.bool true) ∧ Below w.heap.size w w' := by
  have HC : Hid (Came w ao n cap l) := hC
  have hn := hC.small
  have HO : Hid (¬ (0 ≤ at' ∧ 0 ≤ wd ∧ at' + wd ≤ m)) := hout
  clear hout
  clear hC
  go_enter Try.func4, Try.ntmps4
  go_wp2
  go_quiet (fail)
  go_wp2_with fail
  go_at_call 13
  obtain ⟨W0, hW0⟩ : ∃ W0, W0 = (w.alloc (.cells #[.int .i64 a, .int .i64 m, .int .i64 at', .int .i64 wd] 33)).drewN nq := ⟨_, rfl⟩
  rw [← hW0]
  have HK0 : Hid (Keeps w W0 (fun _ => False)) := by rw [hW0]; exact ((Keeps.refl _ _).alloc _).drewN _
  clear hW0
  obtain ⟨q, hq⟩ : ∃ q, q = W0.heap.size := ⟨_, rfl⟩
  have hnw := newWatch_any W0
  rw [← hq] at hnw
  refine hnw.mono ?_
  rintro e w1 ⟨rfl, hw1⟩
  have HR1 : Hid (Room w w1 q none []) := by
    rw [hw1, hq]
    exact ⟨WatchAt.new W0, HK0.out.size, (fun _ h => by cases h), HK0.out.trans (Keeps.none_alloc W0 _) fun _ _ h => h⟩
  clear hnw hw1 hq HK0
  go_wp2_with fail
  go_at_call 14
  refine (of_any ao n cap _).mono ?_
  rintro e w2 ⟨rfl, K2⟩
  have HR2 : Hid (Room w w2 q none []) := HR1.out.kept K2
  clear K2 HR1
  unfold viewV
  go_wp2_with fail
  go_at_call 15
  refine (watched_any ao n cap 0 none (some q) _).mono ?_
  rintro e w3 ⟨rfl, K3⟩
  have HR3 : Hid (Room w w3 q none []) := HR2.out.kept K3
  clear K3 HR2
  unfold viewV
  go_wp2_with fail
  go_at_call 16
  obtain ⟨W3, hW3⟩ : ∃ W3, W3 = w3.alloc (.cells #[.slice ao n cap, .int .i64 0, .pointer (some ⟨q, 0, none⟩)] 37) := ⟨_, rfl⟩
  rw [← hW3]
  obtain ⟨V, hV⟩ : ∃ V, V = w3.heap.size := ⟨_, rfl⟩
  have HV3 : Hid (W3.heap[V]? = some (.cells #[.slice ao n cap, .int .i64 0, .pointer (some ⟨q, 0, none⟩)] 37 (0, 0))) := by rw [hV, hW3]; exact heap_alloc_new w3 _
  have HR3' : Hid (Room w W3 q none []) := by rw [hW3]; exact HR3.out.kept (Keeps.none_alloc w3 _)
  rw [← hV]
  clear hW3 hV HR3
  refine (vlen_any ao n cap 0 (some q) _).mono ?_
  rintro e w4 ⟨rfl, K4⟩
  have HR4 : Hid (Room w w4 q none []) := HR3'.out.kept K4
  have HV4 : Hid (w4.heap[V]? = some (.cells #[.slice ao n cap, .int .i64 0, .pointer (some ⟨q, 0, none⟩)] 37 (0, 0))) := box_kept HV3.out K4
  clear K4 HR3' HV3
  obtain ⟨v0, v1, v2⟩ := box_cells3 HV4.out
  go_wp2_with fail
  go_at_call 17
  refine (part_in ao n cap 0 (some q) a m _ HC.out.form ham ⟨by omega, by omega⟩).mono ?_
  rintro e w5 ⟨⟨ao', cap', rfl, hs5, hsub5, hin5⟩, K5⟩
  have HR5 : Hid (Room w w5 q none []) := HR4.out.kept K5
  have HV5 : Hid (w5.heap[V]? = some (.cells #[.slice ao n cap, .int .i64 0, .pointer (some ⟨q, 0, none⟩)] 37 (0, 0))) := box_kept HV4.out K5
  have HLK : Hid (∀ wr gq rs, rs.length ≤ 1000000000000 → Room w wr q gq rs → Looks wr ao' m cap' (a : Int) (some q) gq rs ((l.drop a).take m)) := fun wr gq rs h hr => by have := HC.out.looks hr h hs5 hsub5 hin5 ham; rwa [Int.zero_add] at this
  have HS5 : Hid (SForm ao' m cap' ∧ (∀ W l, BytesAt W ao n l → BytesAt W ao' m ((l.drop a).take m)) ∧ ∀ b off, ao' = some ⟨b, off, none⟩ → 0 < m → ∃ off0, ao = some ⟨b, off0, none⟩) := ⟨hs5, hsub5, hin5⟩
  clear K5 HR4 HV4 v0 v1 v2 hs5 hsub5 hin5
  unfold viewV
  have hz : (0 : Int) + (a : Int) = a := by omega
  go_wp2_with fail
  go_at_call 18
  obtain ⟨W5, hW5⟩ : ∃ W5, W5 = w5.alloc (.cells #[.slice ao' m cap', .int .i64 a, .pointer (some ⟨q, 0, none⟩)] 37) := ⟨_, rfl⟩
  rw [← hW5]
  obtain ⟨B, hB⟩ : ∃ B, B = w5.heap.size := ⟨_, rfl⟩
  have HB5 : Hid (W5.heap[B]? = some (.cells #[.slice ao' m cap', .int .i64 a, .pointer (some ⟨q, 0, none⟩)] 37 (0, 0))) := by rw [hB, hW5]; exact heap_alloc_new w5 _
  have HR5' : Hid (Room w W5 q none []) := by rw [hW5]; exact HR5.out.kept (Keeps.none_alloc w5 _)
  rw [← hB]
  clear hW5 hB HR5
  refine (reads_any q none [] _ HR5'.out.wat (by simp)).mono ?_
  rintro e w6 ⟨rfl, hO6, hB6⟩
  have HR6 : Hid (Room w w6 q none []) := HR5'.out.kept (Keeps.below_none hB6)
  have HB6 : Hid (w6.heap[B]? = some (.cells #[.slice ao' m cap', .int .i64 a, .pointer (some ⟨q, 0, none⟩)] 37 (0, 0))) := box_kept HB5.out (Keeps.below_none hB6)
  clear hO6 hB6 HR5' HB5 HV5
  obtain ⟨p0, p1, p2⟩ := box_cells3 HB6.out
  go_wp2_with fail
  go_at_call 19
  refine (load_out ao' m cap' a (some q) at' wd _ hw HO.out).mono ?_
  rintro e w7 ⟨rfl, K7⟩
  have HR7 : Hid (Room w w7 q none []) := HR6.out.kept K7
  clear K7 HR6 HB6 p0 p1 p2 HLK HS5
  go_wp2_with (first | (go_at_call 18; refine (reads_any q none [] _ HR7.out.wat (by simp)).mono ?_; rintro e w8 ⟨rfl, hO8, hB8⟩))
  go_ret
  exact ⟨rfl, (HR7.out.kept (Keeps.below_none hB8)).keep.below (fun _ _ h => h.elim) (Nat.le_refl _)⟩

end Go.Proofs.Ytomlndoffoeaiaa.Kit
