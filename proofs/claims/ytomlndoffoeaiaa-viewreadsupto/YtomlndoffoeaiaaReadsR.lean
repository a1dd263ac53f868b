import Derived.Test.YtomlndoffoeaiaaReadsQ
namespace Go.Proofs.Ytomlndoffoeaiaa.Kit
open Go.RowKit Go.Deep
set_option linter.unusedVariables false

set_option maxRecDepth 100000 in
set_option maxHeartbeats 4000000 in
theorem step_load (m bl nl cl i : Nat) (o a b : Int) (ao : Option Addr) (n cap : Nat) (place : Int) (q : Option Nat) (ao' : Option Addr) (n' cap' : Nat) (place' who : Int) (T : World → World → Prop) (w : World) (ho0 : -9223372036854775808 ≤ o) (ho1 : o ≤ 9223372036854775807) (hl0 : 0 < nl) (hl1 : nl ≤ 40) (hi : pickV o nl = i)
    (h2 : w.cell? ⟨m, 2, none⟩ = some (.slice (some ⟨bl, 0, none⟩) nl cl)) (hx : SeenAt w bl i (.slice ao n cap) (.int .i64 place) (.pointer (q.map fun b => ⟨b, 0, none⟩)) (.slice ao' n' cap') (.int .i64 place') (.int .i64 who))
    (h : ∀ W, Keeps w W (fun _ => False) → Calls Try.prog 43 #[.pointer (some ⟨m, 0, none⟩), seenV ao n cap place q ao' n' cap' place' who, opV 3 o a b] W fun e w' => e = .returned (.bool true) ∧ T W w') :
    Calls Try.prog 9 #[.pointer (some ⟨m, 0, none⟩), opV 3 o a b] w fun e w' => e = .returned (.bool true) ∧ ∃ W, Keeps w W (fun _ => False) ∧ T W w' := by
  have H : Hid (∀ W, Keeps w W (fun _ => False) → Calls Try.prog 43 #[.pointer (some ⟨m, 0, none⟩), seenV ao n cap place q ao' n' cap' place' who, opV 3 o a b] W fun e w' => e = .returned (.bool true) ∧ T W w') := h
  clear h
  unfold opV
  go_enter Try.func9, Try.ntmps9
  go_wp2
  obtain ⟨W, hW⟩ : ∃ W, W = w.alloc (.cells #[.int .i64 3, .int .i64 o, .int .i64 a, .int .i64 b] 29) := ⟨_, rfl⟩
  obtain ⟨B, hB⟩ : ∃ B, B = w.heap.size := ⟨_, rfl⟩
  rw [← hW, ← hB]
  have hrow : W.heap[B]? = some (.cells #[.int .i64 3, .int .i64 o, .int .i64 a, .int .i64 b] 29 (0, 0)) := by rw [hW, hB]; exact heap_alloc_new w _
  have HK : Hid (Keeps w W (fun _ => False)) := by rw [hW]; exact (Keeps.refl _ _).alloc _
  have HR : Hid (W.heap[B]? = some (.cells #[.int .i64 3, .int .i64 o, .int .i64 a, .int .i64 b] 29 (0, 0))) := hrow
  have b1 : W.cell? ⟨B, 1, none⟩ = some (.int .i64 o) := by rw [cell_of_row _ _ 1 _ _ _ hrow]; rfl
  have c2 := HK.out.cell' h2 id
  obtain ⟨y0, y1, y2, y3, y4, y5⟩ := hx
  have z0 := HK.out.cell' y0 id
  have z1 := HK.out.cell' y1 id
  have z2 := HK.out.cell' y2 id
  have z3 := HK.out.cell' y3 id
  have z4 := HK.out.cell' y4 id
  have z5 := HK.out.cell' y5 id
  have hil : i < nl := by have := pickV_bd o nl (by omega); omega
  have HI : Hid (pickV o nl = i) := hi
  clear hW hB hrow h2 y0 y1 y2 y3 y4 y5 hi
  go_region_held3 (fun w' => w'.cell? ⟨m, 2, none⟩ = some (.slice (some ⟨bl, 0, none⟩) nl cl) ∧ w'.cell? ⟨B, 1, none⟩ = some (.int .i64 o) ∧ w'.cell? ⟨bl, i * 6, none⟩ = some (.slice ao n cap) ∧ w'.cell? ⟨bl, i * 6 + 1, none⟩ = some (.int .i64 place) ∧ w'.cell? ⟨bl, i * 6 + 2, none⟩ = some (.pointer (q.map fun b => ⟨b, 0, none⟩)) ∧ w'.cell? ⟨bl, i * 6 + 3, none⟩ = some (.slice ao' n' cap') ∧ w'.cell? ⟨bl, i * 6 + 4, none⟩ = some (.int .i64 place') ∧ w'.cell? ⟨bl, i * 6 + 5, none⟩ = some (.int .i64 who)) (go_keep) ((go_at_call 33; refine (pick_any o nl _ ho0 ho1 (by omega) (by omega)).mono ?_; rw [HI.out]; rintro e w9 ⟨rfl, rfl⟩))
  all_goals
    clear c2 b1 z0 z1 z2 z3 z4 z5
    have KW := Keeps.none_alloc_drew' W (.cells #[.slice ao n cap, .int .i64 place, .pointer (q.map fun b => ⟨b, 0, none⟩), .slice ao' n' cap', .int .i64 place', .int .i64 who] 93)
    have hs : (W.alloc (.cells #[.slice ao n cap, .int .i64 place, .pointer (q.map fun b => ⟨b, 0, none⟩), .slice ao' n' cap', .int .i64 place', .int .i64 who] 93)).drew.heap[W.heap.size]? = some (.cells #[.slice ao n cap, .int .i64 place, .pointer (q.map fun b => ⟨b, 0, none⟩), .slice ao' n' cap', .int .i64 place', .int .i64 who] 93 (0, 0)) := heap_alloc_new W _
    have hr := KW.row HR.out id
    have hk : Keeps w (W.alloc (.cells #[.slice ao n cap, .int .i64 place, .pointer (q.map fun b => ⟨b, 0, none⟩), .slice ao' n' cap', .int .i64 place', .int .i64 who] 93)).drew (fun _ => False) := HK.out.trans KW fun _ _ e => e
    clear KW HR HK
    generalize (W.alloc (.cells #[.slice ao n cap, .int .i64 place, .pointer (q.map fun b => ⟨b, 0, none⟩), .slice ao' n' cap', .int .i64 place', .int .i64 who] 93)).drew = W' at *
    generalize W.heap.size = X at *
    obtain ⟨d0, d1, d2, d3⟩ := boxCells4 hr
    obtain ⟨e0, e1, e2, e3, e4, e5⟩ := boxCells6 hs
    have HK : Hid (Keeps w W' (fun _ => False)) := hk
    clear hr hs hk
    go_wp2_with fail
    go_at_call 43
    refine (H.out _ HK.out).mono ?_
    rintro e w9 ⟨rfl, hT⟩
    go_wp2_with fail
    go_ret
    exact ⟨rfl, W', HK.out, hT⟩

set_option maxRecDepth 100000 in
set_option maxHeartbeats 4000000 in
theorem step_signed (m bl nl cl i : Nat) (o a b : Int) (ao : Option Addr) (n cap : Nat) (place : Int) (q : Option Nat) (ao' : Option Addr) (n' cap' : Nat) (place' who : Int) (T : World → World → Prop) (w : World) (ho0 : -9223372036854775808 ≤ o) (ho1 : o ≤ 9223372036854775807) (hl0 : 0 < nl) (hl1 : nl ≤ 40) (hi : pickV o nl = i)
    (h2 : w.cell? ⟨m, 2, none⟩ = some (.slice (some ⟨bl, 0, none⟩) nl cl)) (hx : SeenAt w bl i (.slice ao n cap) (.int .i64 place) (.pointer (q.map fun b => ⟨b, 0, none⟩)) (.slice ao' n' cap') (.int .i64 place') (.int .i64 who))
    (h : ∀ W, Keeps w W (fun _ => False) → Calls Try.prog 43 #[.pointer (some ⟨m, 0, none⟩), seenV ao n cap place q ao' n' cap' place' who, opV 4 o a b] W fun e w' => e = .returned (.bool true) ∧ T W w') :
    Calls Try.prog 9 #[.pointer (some ⟨m, 0, none⟩), opV 4 o a b] w fun e w' => e = .returned (.bool true) ∧ ∃ W, Keeps w W (fun _ => False) ∧ T W w' := by
  have H : Hid (∀ W, Keeps w W (fun _ => False) → Calls Try.prog 43 #[.pointer (some ⟨m, 0, none⟩), seenV ao n cap place q ao' n' cap' place' who, opV 4 o a b] W fun e w' => e = .returned (.bool true) ∧ T W w') := h
  clear h
  unfold opV
  go_enter Try.func9, Try.ntmps9
  go_wp2
  obtain ⟨W, hW⟩ : ∃ W, W = w.alloc (.cells #[.int .i64 4, .int .i64 o, .int .i64 a, .int .i64 b] 29) := ⟨_, rfl⟩
  obtain ⟨B, hB⟩ : ∃ B, B = w.heap.size := ⟨_, rfl⟩
  rw [← hW, ← hB]
  have hrow : W.heap[B]? = some (.cells #[.int .i64 4, .int .i64 o, .int .i64 a, .int .i64 b] 29 (0, 0)) := by rw [hW, hB]; exact heap_alloc_new w _
  have HK : Hid (Keeps w W (fun _ => False)) := by rw [hW]; exact (Keeps.refl _ _).alloc _
  have HR : Hid (W.heap[B]? = some (.cells #[.int .i64 4, .int .i64 o, .int .i64 a, .int .i64 b] 29 (0, 0))) := hrow
  have b1 : W.cell? ⟨B, 1, none⟩ = some (.int .i64 o) := by rw [cell_of_row _ _ 1 _ _ _ hrow]; rfl
  have c2 := HK.out.cell' h2 id
  obtain ⟨y0, y1, y2, y3, y4, y5⟩ := hx
  have z0 := HK.out.cell' y0 id
  have z1 := HK.out.cell' y1 id
  have z2 := HK.out.cell' y2 id
  have z3 := HK.out.cell' y3 id
  have z4 := HK.out.cell' y4 id
  have z5 := HK.out.cell' y5 id
  have hil : i < nl := by have := pickV_bd o nl (by omega); omega
  have HI : Hid (pickV o nl = i) := hi
  clear hW hB hrow h2 y0 y1 y2 y3 y4 y5 hi
  go_region_held3 (fun w' => w'.cell? ⟨m, 2, none⟩ = some (.slice (some ⟨bl, 0, none⟩) nl cl) ∧ w'.cell? ⟨B, 1, none⟩ = some (.int .i64 o) ∧ w'.cell? ⟨bl, i * 6, none⟩ = some (.slice ao n cap) ∧ w'.cell? ⟨bl, i * 6 + 1, none⟩ = some (.int .i64 place) ∧ w'.cell? ⟨bl, i * 6 + 2, none⟩ = some (.pointer (q.map fun b => ⟨b, 0, none⟩)) ∧ w'.cell? ⟨bl, i * 6 + 3, none⟩ = some (.slice ao' n' cap') ∧ w'.cell? ⟨bl, i * 6 + 4, none⟩ = some (.int .i64 place') ∧ w'.cell? ⟨bl, i * 6 + 5, none⟩ = some (.int .i64 who)) (go_keep) ((go_at_call 33; refine (pick_any o nl _ ho0 ho1 (by omega) (by omega)).mono ?_; rw [HI.out]; rintro e w9 ⟨rfl, rfl⟩))
  all_goals
    clear c2 b1 z0 z1 z2 z3 z4 z5
    have KW := Keeps.none_alloc_drew' W (.cells #[.slice ao n cap, .int .i64 place, .pointer (q.map fun b => ⟨b, 0, none⟩), .slice ao' n' cap', .int .i64 place', .int .i64 who] 93)
    have hs : (W.alloc (.cells #[.slice ao n cap, .int .i64 place, .pointer (q.map fun b => ⟨b, 0, none⟩), .slice ao' n' cap', .int .i64 place', .int .i64 who] 93)).drew.heap[W.heap.size]? = some (.cells #[.slice ao n cap, .int .i64 place, .pointer (q.map fun b => ⟨b, 0, none⟩), .slice ao' n' cap', .int .i64 place', .int .i64 who] 93 (0, 0)) := heap_alloc_new W _
    have hr := KW.row HR.out id
    have hk : Keeps w (W.alloc (.cells #[.slice ao n cap, .int .i64 place, .pointer (q.map fun b => ⟨b, 0, none⟩), .slice ao' n' cap', .int .i64 place', .int .i64 who] 93)).drew (fun _ => False) := HK.out.trans KW fun _ _ e => e
    clear KW HR HK
    generalize (W.alloc (.cells #[.slice ao n cap, .int .i64 place, .pointer (q.map fun b => ⟨b, 0, none⟩), .slice ao' n' cap', .int .i64 place', .int .i64 who] 93)).drew = W' at *
    generalize W.heap.size = X at *
    obtain ⟨d0, d1, d2, d3⟩ := boxCells4 hr
    obtain ⟨e0, e1, e2, e3, e4, e5⟩ := boxCells6 hs
    have HK : Hid (Keeps w W' (fun _ => False)) := hk
    clear hr hs hk
    go_wp2_with fail
    go_at_call 43
    refine (H.out _ HK.out).mono ?_
    rintro e w9 ⟨rfl, hT⟩
    go_wp2_with fail
    go_ret
    exact ⟨rfl, W', HK.out, hT⟩

set_option maxRecDepth 100000 in
set_option maxHeartbeats 4000000 in
theorem step_raw (m bl nl cl i : Nat) (o a b : Int) (ao : Option Addr) (n cap : Nat) (place : Int) (q : Option Nat) (ao' : Option Addr) (n' cap' : Nat) (place' who : Int) (T : World → World → Prop) (w : World) (ho0 : -9223372036854775808 ≤ o) (ho1 : o ≤ 9223372036854775807) (hl0 : 0 < nl) (hl1 : nl ≤ 40) (hi : pickV o nl = i)
    (h2 : w.cell? ⟨m, 2, none⟩ = some (.slice (some ⟨bl, 0, none⟩) nl cl)) (hx : SeenAt w bl i (.slice ao n cap) (.int .i64 place) (.pointer (q.map fun b => ⟨b, 0, none⟩)) (.slice ao' n' cap') (.int .i64 place') (.int .i64 who))
    (h : ∀ W, Keeps w W (fun _ => False) → Calls Try.prog 45 #[.pointer (some ⟨m, 0, none⟩), seenV ao n cap place q ao' n' cap' place' who] W fun e w' => e = .returned (.bool true) ∧ T W w') :
    Calls Try.prog 9 #[.pointer (some ⟨m, 0, none⟩), opV 6 o a b] w fun e w' => e = .returned (.bool true) ∧ ∃ W, Keeps w W (fun _ => False) ∧ T W w' := by
  have H : Hid (∀ W, Keeps w W (fun _ => False) → Calls Try.prog 45 #[.pointer (some ⟨m, 0, none⟩), seenV ao n cap place q ao' n' cap' place' who] W fun e w' => e = .returned (.bool true) ∧ T W w') := h
  clear h
  unfold opV
  go_enter Try.func9, Try.ntmps9
  go_wp2
  obtain ⟨W, hW⟩ : ∃ W, W = w.alloc (.cells #[.int .i64 6, .int .i64 o, .int .i64 a, .int .i64 b] 29) := ⟨_, rfl⟩
  obtain ⟨B, hB⟩ : ∃ B, B = w.heap.size := ⟨_, rfl⟩
  rw [← hW, ← hB]
  have hrow : W.heap[B]? = some (.cells #[.int .i64 6, .int .i64 o, .int .i64 a, .int .i64 b] 29 (0, 0)) := by rw [hW, hB]; exact heap_alloc_new w _
  have HK : Hid (Keeps w W (fun _ => False)) := by rw [hW]; exact (Keeps.refl _ _).alloc _
  have HR : Hid (W.heap[B]? = some (.cells #[.int .i64 6, .int .i64 o, .int .i64 a, .int .i64 b] 29 (0, 0))) := hrow
  have b1 : W.cell? ⟨B, 1, none⟩ = some (.int .i64 o) := by rw [cell_of_row _ _ 1 _ _ _ hrow]; rfl
  have c2 := HK.out.cell' h2 id
  obtain ⟨y0, y1, y2, y3, y4, y5⟩ := hx
  have z0 := HK.out.cell' y0 id
  have z1 := HK.out.cell' y1 id
  have z2 := HK.out.cell' y2 id
  have z3 := HK.out.cell' y3 id
  have z4 := HK.out.cell' y4 id
  have z5 := HK.out.cell' y5 id
  have hil : i < nl := by have := pickV_bd o nl (by omega); omega
  have HI : Hid (pickV o nl = i) := hi
  clear hW hB hrow h2 y0 y1 y2 y3 y4 y5 hi
  go_region_held3 (fun w' => w'.cell? ⟨m, 2, none⟩ = some (.slice (some ⟨bl, 0, none⟩) nl cl) ∧ w'.cell? ⟨B, 1, none⟩ = some (.int .i64 o) ∧ w'.cell? ⟨bl, i * 6, none⟩ = some (.slice ao n cap) ∧ w'.cell? ⟨bl, i * 6 + 1, none⟩ = some (.int .i64 place) ∧ w'.cell? ⟨bl, i * 6 + 2, none⟩ = some (.pointer (q.map fun b => ⟨b, 0, none⟩)) ∧ w'.cell? ⟨bl, i * 6 + 3, none⟩ = some (.slice ao' n' cap') ∧ w'.cell? ⟨bl, i * 6 + 4, none⟩ = some (.int .i64 place') ∧ w'.cell? ⟨bl, i * 6 + 5, none⟩ = some (.int .i64 who)) (go_keep) ((go_at_call 33; refine (pick_any o nl _ ho0 ho1 (by omega) (by omega)).mono ?_; rw [HI.out]; rintro e w9 ⟨rfl, rfl⟩))
  all_goals
    clear c2 b1 z0 z1 z2 z3 z4 z5
    have KW := Keeps.none_alloc_drew' W (.cells #[.slice ao n cap, .int .i64 place, .pointer (q.map fun b => ⟨b, 0, none⟩), .slice ao' n' cap', .int .i64 place', .int .i64 who] 93)
    have hs : (W.alloc (.cells #[.slice ao n cap, .int .i64 place, .pointer (q.map fun b => ⟨b, 0, none⟩), .slice ao' n' cap', .int .i64 place', .int .i64 who] 93)).drew.heap[W.heap.size]? = some (.cells #[.slice ao n cap, .int .i64 place, .pointer (q.map fun b => ⟨b, 0, none⟩), .slice ao' n' cap', .int .i64 place', .int .i64 who] 93 (0, 0)) := heap_alloc_new W _
    have hr := KW.row HR.out id
    have hk : Keeps w (W.alloc (.cells #[.slice ao n cap, .int .i64 place, .pointer (q.map fun b => ⟨b, 0, none⟩), .slice ao' n' cap', .int .i64 place', .int .i64 who] 93)).drew (fun _ => False) := HK.out.trans KW fun _ _ e => e
    clear KW HR HK
    generalize (W.alloc (.cells #[.slice ao n cap, .int .i64 place, .pointer (q.map fun b => ⟨b, 0, none⟩), .slice ao' n' cap', .int .i64 place', .int .i64 who] 93)).drew = W' at *
    generalize W.heap.size = X at *
    obtain ⟨d0, d1, d2, d3⟩ := boxCells4 hr
    obtain ⟨e0, e1, e2, e3, e4, e5⟩ := boxCells6 hs
    have HK : Hid (Keeps w W' (fun _ => False)) := hk
    clear hr hs hk
    go_wp2_with fail
    go_at_call 45
    refine (H.out _ HK.out).mono ?_
    rintro e w9 ⟨rfl, hT⟩
    go_wp2_with fail
    go_ret
    exact ⟨rfl, W', HK.out, hT⟩

set_option maxRecDepth 100000 in
set_option maxHeartbeats 4000000 in
theorem step_reads (m bl nl cl i : Nat) (o a b : Int) (ao : Option Addr) (n cap : Nat) (place : Int) (q : Option Nat) (ao' : Option Addr) (n' cap' : Nat) (place' who : Int) (T : World → World → Prop) (w : World) (ho0 : -9223372036854775808 ≤ o) (ho1 : o ≤ 9223372036854775807) (hl0 : 0 < nl) (hl1 : nl ≤ 40) (hi : pickV o nl = i)
    (h2 : w.cell? ⟨m, 2, none⟩ = some (.slice (some ⟨bl, 0, none⟩) nl cl)) (hx : SeenAt w bl i (.slice ao n cap) (.int .i64 place) (.pointer (q.map fun b => ⟨b, 0, none⟩)) (.slice ao' n' cap') (.int .i64 place') (.int .i64 who))
    (h : ∀ W, Keeps w W (fun _ => False) → Calls Try.prog 11 #[.pointer (some ⟨m, 0, none⟩)] W fun e w' => e = .returned (.bool true) ∧ T W w') :
    Calls Try.prog 9 #[.pointer (some ⟨m, 0, none⟩), opV 10 o a b] w fun e w' => e = .returned (.bool true) ∧ ∃ W, Keeps w W (fun _ => False) ∧ T W w' := by
  have H : Hid (∀ W, Keeps w W (fun _ => False) → Calls Try.prog 11 #[.pointer (some ⟨m, 0, none⟩)] W fun e w' => e = .returned (.bool true) ∧ T W w') := h
  clear h
  unfold opV
  go_enter Try.func9, Try.ntmps9
  go_wp2
  obtain ⟨W, hW⟩ : ∃ W, W = w.alloc (.cells #[.int .i64 10, .int .i64 o, .int .i64 a, .int .i64 b] 29) := ⟨_, rfl⟩
  obtain ⟨B, hB⟩ : ∃ B, B = w.heap.size := ⟨_, rfl⟩
  rw [← hW, ← hB]
  have hrow : W.heap[B]? = some (.cells #[.int .i64 10, .int .i64 o, .int .i64 a, .int .i64 b] 29 (0, 0)) := by rw [hW, hB]; exact heap_alloc_new w _
  have HK : Hid (Keeps w W (fun _ => False)) := by rw [hW]; exact (Keeps.refl _ _).alloc _
  have HR : Hid (W.heap[B]? = some (.cells #[.int .i64 10, .int .i64 o, .int .i64 a, .int .i64 b] 29 (0, 0))) := hrow
  have b1 : W.cell? ⟨B, 1, none⟩ = some (.int .i64 o) := by rw [cell_of_row _ _ 1 _ _ _ hrow]; rfl
  have c2 := HK.out.cell' h2 id
  obtain ⟨y0, y1, y2, y3, y4, y5⟩ := hx
  have z0 := HK.out.cell' y0 id
  have z1 := HK.out.cell' y1 id
  have z2 := HK.out.cell' y2 id
  have z3 := HK.out.cell' y3 id
  have z4 := HK.out.cell' y4 id
  have z5 := HK.out.cell' y5 id
  have hil : i < nl := by have := pickV_bd o nl (by omega); omega
  have HI : Hid (pickV o nl = i) := hi
  clear hW hB hrow h2 y0 y1 y2 y3 y4 y5 hi
  go_region_held3 (fun w' => w'.cell? ⟨m, 2, none⟩ = some (.slice (some ⟨bl, 0, none⟩) nl cl) ∧ w'.cell? ⟨B, 1, none⟩ = some (.int .i64 o) ∧ w'.cell? ⟨bl, i * 6, none⟩ = some (.slice ao n cap) ∧ w'.cell? ⟨bl, i * 6 + 1, none⟩ = some (.int .i64 place) ∧ w'.cell? ⟨bl, i * 6 + 2, none⟩ = some (.pointer (q.map fun b => ⟨b, 0, none⟩)) ∧ w'.cell? ⟨bl, i * 6 + 3, none⟩ = some (.slice ao' n' cap') ∧ w'.cell? ⟨bl, i * 6 + 4, none⟩ = some (.int .i64 place') ∧ w'.cell? ⟨bl, i * 6 + 5, none⟩ = some (.int .i64 who)) (go_keep) ((go_at_call 33; refine (pick_any o nl _ ho0 ho1 (by omega) (by omega)).mono ?_; rw [HI.out]; rintro e w9 ⟨rfl, rfl⟩))
  all_goals
    clear c2 b1 z0 z1 z2 z3 z4 z5
    have KW := Keeps.none_alloc_drew' W (.cells #[.slice ao n cap, .int .i64 place, .pointer (q.map fun b => ⟨b, 0, none⟩), .slice ao' n' cap', .int .i64 place', .int .i64 who] 93)
    have hs : (W.alloc (.cells #[.slice ao n cap, .int .i64 place, .pointer (q.map fun b => ⟨b, 0, none⟩), .slice ao' n' cap', .int .i64 place', .int .i64 who] 93)).drew.heap[W.heap.size]? = some (.cells #[.slice ao n cap, .int .i64 place, .pointer (q.map fun b => ⟨b, 0, none⟩), .slice ao' n' cap', .int .i64 place', .int .i64 who] 93 (0, 0)) := heap_alloc_new W _
    have hr := KW.row HR.out id
    have hk : Keeps w (W.alloc (.cells #[.slice ao n cap, .int .i64 place, .pointer (q.map fun b => ⟨b, 0, none⟩), .slice ao' n' cap', .int .i64 place', .int .i64 who] 93)).drew (fun _ => False) := HK.out.trans KW fun _ _ e => e
    clear KW HR HK
    generalize (W.alloc (.cells #[.slice ao n cap, .int .i64 place, .pointer (q.map fun b => ⟨b, 0, none⟩), .slice ao' n' cap', .int .i64 place', .int .i64 who] 93)).drew = W' at *
    generalize W.heap.size = X at *
    obtain ⟨d0, d1, d2, d3⟩ := boxCells4 hr
    obtain ⟨e0, e1, e2, e3, e4, e5⟩ := boxCells6 hs
    have HK : Hid (Keeps w W' (fun _ => False)) := hk
    clear hr hs hk
    go_wp2_with fail
    go_at_call 11
    refine (H.out _ HK.out).mono ?_
    rintro e w9 ⟨rfl, hT⟩
    go_wp2_with fail
    go_ret
    exact ⟨rfl, W', HK.out, hT⟩
end Go.Proofs.Ytomlndoffoeaiaa.Kit
