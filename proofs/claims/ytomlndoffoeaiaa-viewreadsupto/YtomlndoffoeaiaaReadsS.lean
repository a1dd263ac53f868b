import Derived.Test.YtomlndoffoeaiaaReadsR
namespace Go.Proofs.Ytomlndoffoeaiaa.Kit
open Go.RowKit Go.Deep
set_option linter.unusedVariables false

set_option maxRecDepth 100000 in
set_option maxHeartbeats 4000000 in
theorem step_byte_err (m bl nl cl i : Nat) (o a b : Int) (ao : Option Addr) (n cap : Nat) (place : Int) (q : Option Nat) (ao' : Option Addr) (n' cap' : Nat) (place' who : Int) (c : Int) (hc : c ≠ 0) (w : World) (ho0 : -9223372036854775808 ≤ o) (ho1 : o ≤ 9223372036854775807) (hl0 : 0 < nl) (hl1 : nl ≤ 40) (hi : pickV o nl = i)
    (h2 : w.cell? ⟨m, 2, none⟩ = some (.slice (some ⟨bl, 0, none⟩) nl cl)) (hx : SeenAt w bl i (.slice ao n cap) (.int .i64 place) (.pointer (q.map fun b => ⟨b, 0, none⟩)) (.slice ao' n' cap') (.int .i64 place') (.int .i64 who))
    (h1 : ∀ w, Calls Try.prog 39 #[viewV ao n cap place q, .int .i64 a] w fun e w' => e = .returned (.tuple #[.int .u8 0, .int .i64 c]) ∧ Keeps w w' (fun _ => False))
    (h2' : ∀ w, Calls Try.prog 41 #[refV ao' n' cap' place', .int .i64 a] w fun e w' => e = .returned (.tuple #[.int .u8 0, .int .i64 c]) ∧ Keeps w w' (fun _ => False)) :
    Calls Try.prog 9 #[.pointer (some ⟨m, 0, none⟩), opV 2 o a b] w fun e w' => e = .returned (.bool true) ∧ Keeps w w' (fun _ => False) := by
  have H1 : Hid (∀ w, Calls Try.prog 39 #[viewV ao n cap place q, .int .i64 a] w fun e w' => e = .returned (.tuple #[.int .u8 0, .int .i64 c]) ∧ Keeps w w' (fun _ => False)) := h1
  have H2 : Hid (∀ w, Calls Try.prog 41 #[refV ao' n' cap' place', .int .i64 a] w fun e w' => e = .returned (.tuple #[.int .u8 0, .int .i64 c]) ∧ Keeps w w' (fun _ => False)) := h2'
  clear h1 h2'
  unfold opV
  go_enter Try.func9, Try.ntmps9
  go_wp2
  obtain ⟨W, hW⟩ : ∃ W, W = w.alloc (.cells #[.int .i64 2, .int .i64 o, .int .i64 a, .int .i64 b] 29) := ⟨_, rfl⟩
  obtain ⟨B, hB⟩ : ∃ B, B = w.heap.size := ⟨_, rfl⟩
  rw [← hW, ← hB]
  have hrow : W.heap[B]? = some (.cells #[.int .i64 2, .int .i64 o, .int .i64 a, .int .i64 b] 29 (0, 0)) := by rw [hW, hB]; exact heap_alloc_new w _
  have HK : Hid (Keeps w W (fun _ => False)) := by rw [hW]; exact (Keeps.refl _ _).alloc _
  have HBn : Hid (w.heap.size ≤ B) := by rw [hB]; exact Nat.le_refl _
  have HR : Hid (W.heap[B]? = some (.cells #[.int .i64 2, .int .i64 o, .int .i64 a, .int .i64 b] 29 (0, 0))) := hrow
  have b1 : W.cell? ⟨B, 1, none⟩ = some (.int .i64 o) := by rw [cell_of_row _ _ 1 _ _ _ hrow]; rfl
  have c2 := HK.out.cell' h2 id
  obtain ⟨y0, y1, y2, y3, y4, y5⟩ := hx
  have z0 := HK.out.cell' y0 id
  have z1 := HK.out.cell' y1 id
  have z2 := HK.out.cell' y2 id
  have z3 := HK.out.cell' y3 id
  have z4 := HK.out.cell' y4 id
  have z5 := HK.out.cell' y5 id
  have hil : i < nl := by have := pickV_bd o nl (by omega); omega
  have HI : Hid (pickV o nl = i) := hi
  clear hW hB hrow h2 y0 y1 y2 y3 y4 y5 hi
  go_region_held3 (fun w' => w'.cell? ⟨m, 2, none⟩ = some (.slice (some ⟨bl, 0, none⟩) nl cl) ∧ w'.cell? ⟨B, 1, none⟩ = some (.int .i64 o) ∧ w'.cell? ⟨bl, i * 6, none⟩ = some (.slice ao n cap) ∧ w'.cell? ⟨bl, i * 6 + 1, none⟩ = some (.int .i64 place) ∧ w'.cell? ⟨bl, i * 6 + 2, none⟩ = some (.pointer (q.map fun b => ⟨b, 0, none⟩)) ∧ w'.cell? ⟨bl, i * 6 + 3, none⟩ = some (.slice ao' n' cap') ∧ w'.cell? ⟨bl, i * 6 + 4, none⟩ = some (.int .i64 place') ∧ w'.cell? ⟨bl, i * 6 + 5, none⟩ = some (.int .i64 who)) (go_keep) ((go_at_call 33; refine (pick_any o nl _ ho0 ho1 (by omega) (by omega)).mono ?_; rw [HI.out]; rintro e w9 ⟨rfl, rfl⟩))
  all_goals
    clear c2 b1 z0 z1 z2 z3 z4 z5
    have KW := Keeps.none_alloc_drew' W (.cells #[.slice ao n cap, .int .i64 place, .pointer (q.map fun b => ⟨b, 0, none⟩), .slice ao' n' cap', .int .i64 place', .int .i64 who] 93)
    have hs : (W.alloc (.cells #[.slice ao n cap, .int .i64 place, .pointer (q.map fun b => ⟨b, 0, none⟩), .slice ao' n' cap', .int .i64 place', .int .i64 who] 93)).drew.heap[W.heap.size]? = some (.cells #[.slice ao n cap, .int .i64 place, .pointer (q.map fun b => ⟨b, 0, none⟩), .slice ao' n' cap', .int .i64 place', .int .i64 who] 93 (0, 0)) := heap_alloc_new W _
    have hr := KW.row HR.out id
    have hk : Keeps w (W.alloc (.cells #[.slice ao n cap, .int .i64 place, .pointer (q.map fun b => ⟨b, 0, none⟩), .slice ao' n' cap', .int .i64 place', .int .i64 who] 93)).drew (fun _ => False) := HK.out.trans KW fun _ _ e => e
    have HXn : Hid (w.heap.size ≤ W.heap.size) := HK.out.size
    clear KW HR HK
    generalize (W.alloc (.cells #[.slice ao n cap, .int .i64 place, .pointer (q.map fun b => ⟨b, 0, none⟩), .slice ao' n' cap', .int .i64 place', .int .i64 who] 93)).drew = W' at *
    generalize W.heap.size = X at *
    obtain ⟨d0, d1, d2, d3⟩ := boxCells4 hr
    obtain ⟨e0, e1, e2, e3, e4, e5⟩ := boxCells6 hs
    have HK : Hid (Keeps w W' (fun _ => False)) := hk
    have HR := hr
    have HR : Hid _ := HR
    have HX := hs
    have HX : Hid _ := HX
    clear hr hs hk
    go_wp2_with fail
    go_at_call 39
    refine (H1.out _).mono ?_
    rintro e w1 ⟨rfl, K1⟩
    have HK1 : Hid (Keeps w w1 (fun _ => False)) := HK.out.trans K1 fun _ _ e => e
    clear d0 d1 d2 d3 e0 e1 e2 e3 e4 e5
    obtain ⟨d0, d1, d2, d3⟩ := boxCells4 (K1.row HR.out id)
    obtain ⟨e0, e1, e2, e3, e4, e5⟩ := boxCells6 (K1.row HX.out id)
    clear K1 HK
    go_wp2_with fail
    go_at_call 41
    refine (H2.out _).mono ?_
    rintro e w2 ⟨rfl, K2⟩
    have HK2 : Hid (Keeps w w2 (fun _ => False)) := HK1.out.trans K2 fun _ _ e => e
    clear K2 HK1 d0 d1 d2 d3 e0 e1 e2 e3 e4 e5
    go_wp2_with fail
    go_ret
    exact ⟨by go_simp, HK2.out⟩

set_option maxRecDepth 100000 in
set_option maxHeartbeats 4000000 in
theorem step_byte_ok (m bl nl cl i : Nat) (o a b : Int) (ao : Option Addr) (n cap : Nat) (place : Int) (q : Option Nat) (ao' : Option Addr) (n' cap' : Nat) (place' who : Int) (X0 : Int) (gq : Option Nat) (rs : List (Int × Int)) (T : World → World → Prop) (w : World) (ho0 : -9223372036854775808 ≤ o) (ho1 : o ≤ 9223372036854775807) (hl0 : 0 < nl) (hl1 : nl ≤ 40) (hi : pickV o nl = i)
    (h2 : w.cell? ⟨m, 2, none⟩ = some (.slice (some ⟨bl, 0, none⟩) nl cl)) (hx : SeenAt w bl i (.slice ao n cap) (.int .i64 place) (.pointer (q.map fun b => ⟨b, 0, none⟩)) (.slice ao' n' cap') (.int .i64 place') (.int .i64 who))
    (hlt : ∀ k, (q = some k ∨ gq = some k) → k < w.heap.size)
    (h1 : ∀ W, Keeps w W (fun _ => False) → Calls Try.prog 39 #[viewV ao n cap place q, .int .i64 a] W fun e w' => e = .returned (.tuple #[.int .u8 X0, .int .i64 0]) ∧ WatDone W w' q gq rs)
    (h2' : ∀ W W1, Keeps w W (fun _ => False) → WatDone W W1 q gq rs → Calls Try.prog 41 #[refV ao' n' cap' place', .int .i64 a] W1 fun e w' => e = .returned (.tuple #[.int .u8 X0, .int .i64 0]) ∧ Keeps W1 w' (fun _ => False))
    (h3 : ∀ W, Keeps w W (fun k => q = some k ∨ gq = some k) → Calls Try.prog 42 #[.pointer (some ⟨m, 0, none⟩), seenV ao n cap place q ao' n' cap' place' who, .int .i64 a, .int .i64 1] W fun e w' => e = .returned (.tuple #[]) ∧ T W w') :
    Calls Try.prog 9 #[.pointer (some ⟨m, 0, none⟩), opV 2 o a b] w fun e w' => e = .returned (.bool true) ∧ Chain w w' q gq rs T := by
  have H1 : Hid (∀ W, Keeps w W (fun _ => False) → Calls Try.prog 39 #[viewV ao n cap place q, .int .i64 a] W fun e w' => e = .returned (.tuple #[.int .u8 X0, .int .i64 0]) ∧ WatDone W w' q gq rs) := h1
  have H2 : Hid (∀ W W1, Keeps w W (fun _ => False) → WatDone W W1 q gq rs → Calls Try.prog 41 #[refV ao' n' cap' place', .int .i64 a] W1 fun e w' => e = .returned (.tuple #[.int .u8 X0, .int .i64 0]) ∧ Keeps W1 w' (fun _ => False)) := h2'
  have H3 : Hid (∀ W, Keeps w W (fun k => q = some k ∨ gq = some k) → Calls Try.prog 42 #[.pointer (some ⟨m, 0, none⟩), seenV ao n cap place q ao' n' cap' place' who, .int .i64 a, .int .i64 1] W fun e w' => e = .returned (.tuple #[]) ∧ T W w') := h3
  have HL : Hid (∀ k, (q = some k ∨ gq = some k) → k < w.heap.size) := hlt
  clear h1 h2' h3 hlt
  unfold opV
  go_enter Try.func9, Try.ntmps9
  go_wp2
  obtain ⟨W, hW⟩ : ∃ W, W = w.alloc (.cells #[.int .i64 2, .int .i64 o, .int .i64 a, .int .i64 b] 29) := ⟨_, rfl⟩
  obtain ⟨B, hB⟩ : ∃ B, B = w.heap.size := ⟨_, rfl⟩
  rw [← hW, ← hB]
  have hrow : W.heap[B]? = some (.cells #[.int .i64 2, .int .i64 o, .int .i64 a, .int .i64 b] 29 (0, 0)) := by rw [hW, hB]; exact heap_alloc_new w _
  have HK : Hid (Keeps w W (fun _ => False)) := by rw [hW]; exact (Keeps.refl _ _).alloc _
  have HBn : Hid (w.heap.size ≤ B) := by rw [hB]; exact Nat.le_refl _
  have HR : Hid (W.heap[B]? = some (.cells #[.int .i64 2, .int .i64 o, .int .i64 a, .int .i64 b] 29 (0, 0))) := hrow
  have b1 : W.cell? ⟨B, 1, none⟩ = some (.int .i64 o) := by rw [cell_of_row _ _ 1 _ _ _ hrow]; rfl
  have c2 := HK.out.cell' h2 id
  obtain ⟨y0, y1, y2, y3, y4, y5⟩ := hx
  have z0 := HK.out.cell' y0 id
  have z1 := HK.out.cell' y1 id
  have z2 := HK.out.cell' y2 id
  have z3 := HK.out.cell' y3 id
  have z4 := HK.out.cell' y4 id
  have z5 := HK.out.cell' y5 id
  have hil : i < nl := by have := pickV_bd o nl (by omega); omega
  have HI : Hid (pickV o nl = i) := hi
  clear hW hB hrow h2 y0 y1 y2 y3 y4 y5 hi
  go_region_held3 (fun w' => w'.cell? ⟨m, 2, none⟩ = some (.slice (some ⟨bl, 0, none⟩) nl cl) ∧ w'.cell? ⟨B, 1, none⟩ = some (.int .i64 o) ∧ w'.cell? ⟨bl, i * 6, none⟩ = some (.slice ao n cap) ∧ w'.cell? ⟨bl, i * 6 + 1, none⟩ = some (.int .i64 place) ∧ w'.cell? ⟨bl, i * 6 + 2, none⟩ = some (.pointer (q.map fun b => ⟨b, 0, none⟩)) ∧ w'.cell? ⟨bl, i * 6 + 3, none⟩ = some (.slice ao' n' cap') ∧ w'.cell? ⟨bl, i * 6 + 4, none⟩ = some (.int .i64 place') ∧ w'.cell? ⟨bl, i * 6 + 5, none⟩ = some (.int .i64 who)) (go_keep) ((go_at_call 33; refine (pick_any o nl _ ho0 ho1 (by omega) (by omega)).mono ?_; rw [HI.out]; rintro e w9 ⟨rfl, rfl⟩))
  all_goals
    clear c2 b1 z0 z1 z2 z3 z4 z5
    have KW := Keeps.none_alloc_drew' W (.cells #[.slice ao n cap, .int .i64 place, .pointer (q.map fun b => ⟨b, 0, none⟩), .slice ao' n' cap', .int .i64 place', .int .i64 who] 93)
    have hs : (W.alloc (.cells #[.slice ao n cap, .int .i64 place, .pointer (q.map fun b => ⟨b, 0, none⟩), .slice ao' n' cap', .int .i64 place', .int .i64 who] 93)).drew.heap[W.heap.size]? = some (.cells #[.slice ao n cap, .int .i64 place, .pointer (q.map fun b => ⟨b, 0, none⟩), .slice ao' n' cap', .int .i64 place', .int .i64 who] 93 (0, 0)) := heap_alloc_new W _
    have hr := KW.row HR.out id
    have hk : Keeps w (W.alloc (.cells #[.slice ao n cap, .int .i64 place, .pointer (q.map fun b => ⟨b, 0, none⟩), .slice ao' n' cap', .int .i64 place', .int .i64 who] 93)).drew (fun _ => False) := HK.out.trans KW fun _ _ e => e
    have HXn : Hid (w.heap.size ≤ W.heap.size) := HK.out.size
    clear KW HR HK
    generalize (W.alloc (.cells #[.slice ao n cap, .int .i64 place, .pointer (q.map fun b => ⟨b, 0, none⟩), .slice ao' n' cap', .int .i64 place', .int .i64 who] 93)).drew = W' at *
    generalize W.heap.size = X at *
    obtain ⟨d0, d1, d2, d3⟩ := boxCells4 hr
    obtain ⟨e0, e1, e2, e3, e4, e5⟩ := boxCells6 hs
    have HK : Hid (Keeps w W' (fun _ => False)) := hk
    have HR := hr
    have HR : Hid _ := HR
    have HX := hs
    have HX : Hid _ := HX
    clear hr hs hk
    go_wp2_with fail
    go_at_call 39
    refine (H1.out _ HK.out).mono ?_
    rintro e w1 ⟨rfl, D1⟩
    have hB' := HBn.out
    have hX' := HXn.out
    have hr1 := D1.sub.row HR.out fun e => by have := HL.out _ e; omega
    have hs1 := D1.sub.row HX.out fun e => by have := HL.out _ e; omega
    have HKq : Hid (Keeps w w1 (fun k => q = some k ∨ gq = some k)) := (HK.out.mono fun _ _ e => e.elim).trans D1.sub fun _ _ e => e
    have HD : Hid (WatDone W' w1 q gq rs) := D1
    clear d0 d1 d2 d3 e0 e1 e2 e3 e4 e5 D1 HR HX hB' hX'
    obtain ⟨d0, d1, d2, d3⟩ := boxCells4 hr1
    obtain ⟨e0, e1, e2, e3, e4, e5⟩ := boxCells6 hs1
    have HR := hr1
    have HR : Hid _ := HR
    have HX := hs1
    have HX : Hid _ := HX
    clear hr1 hs1
    go_wp2_with fail
    go_at_call 41
    refine (H2.out W' _ HK.out HD.out).mono ?_
    rintro e w2 ⟨rfl, K2⟩
    have HK2 : Hid (Keeps w1 w2 (fun _ => False)) := K2
    clear d0 d1 d2 d3 e0 e1 e2 e3 e4 e5
    obtain ⟨d0, d1, d2, d3⟩ := boxCells4 (K2.row HR.out id)
    obtain ⟨e0, e1, e2, e3, e4, e5⟩ := boxCells6 (K2.row HX.out id)
    clear K2
    go_wp2_with fail
    go_at_call 42
    refine (H3.out _ (HKq.out.trans HK2.out fun _ _ e => e.elim)).mono ?_
    rintro e w3 ⟨rfl, HT⟩
    have HT : Hid (T w2 w3) := HT
    clear d0 d1 d2 d3 e0 e1 e2 e3 e4 e5
    go_wp2_with fail
    go_ret
    exact ⟨by go_simp, W', w1, w2, HK.out, HD.out, HK2.out, HT.out⟩

set_option maxRecDepth 100000 in
set_option maxHeartbeats 4000000 in
theorem step_text_err (m bl nl cl i : Nat) (o a b : Int) (ao : Option Addr) (n cap : Nat) (place : Int) (q : Option Nat) (ao' : Option Addr) (n' cap' : Nat) (place' who : Int) (c : Int) (hc : c ≠ 0) (w : World) (ho0 : -9223372036854775808 ≤ o) (ho1 : o ≤ 9223372036854775807) (hl0 : 0 < nl) (hl1 : nl ≤ 40) (hi : pickV o nl = i)
    (h2 : w.cell? ⟨m, 2, none⟩ = some (.slice (some ⟨bl, 0, none⟩) nl cl)) (hx : SeenAt w bl i (.slice ao n cap) (.int .i64 place) (.pointer (q.map fun b => ⟨b, 0, none⟩)) (.slice ao' n' cap') (.int .i64 place') (.int .i64 who))
    (h1 : ∀ w, Calls Try.prog 34 #[viewV ao n cap place q, .int .i64 a, .int .i64 b] w fun e w' => e = .returned (.tuple #[.string ByteArray.empty, .int .i64 c]) ∧ Keeps w w' (fun _ => False))
    (h2' : ∀ w, Calls Try.prog 44 #[refV ao' n' cap' place', .int .i64 a, .int .i64 b] w fun e w' => e = .returned (.tuple #[.string ByteArray.empty, .int .i64 c]) ∧ Keeps w w' (fun _ => False)) :
    Calls Try.prog 9 #[.pointer (some ⟨m, 0, none⟩), opV 5 o a b] w fun e w' => e = .returned (.bool true) ∧ Keeps w w' (fun _ => False) := by
  have H1 : Hid (∀ w, Calls Try.prog 34 #[viewV ao n cap place q, .int .i64 a, .int .i64 b] w fun e w' => e = .returned (.tuple #[.string ByteArray.empty, .int .i64 c]) ∧ Keeps w w' (fun _ => False)) := h1
  have H2 : Hid (∀ w, Calls Try.prog 44 #[refV ao' n' cap' place', .int .i64 a, .int .i64 b] w fun e w' => e = .returned (.tuple #[.string ByteArray.empty, .int .i64 c]) ∧ Keeps w w' (fun _ => False)) := h2'
  clear h1 h2'
  unfold opV
  go_enter Try.func9, Try.ntmps9
  go_wp2
  obtain ⟨W, hW⟩ : ∃ W, W = w.alloc (.cells #[.int .i64 5, .int .i64 o, .int .i64 a, .int .i64 b] 29) := ⟨_, rfl⟩
  obtain ⟨B, hB⟩ : ∃ B, B = w.heap.size := ⟨_, rfl⟩
  rw [← hW, ← hB]
  have hrow : W.heap[B]? = some (.cells #[.int .i64 5, .int .i64 o, .int .i64 a, .int .i64 b] 29 (0, 0)) := by rw [hW, hB]; exact heap_alloc_new w _
  have HK : Hid (Keeps w W (fun _ => False)) := by rw [hW]; exact (Keeps.refl _ _).alloc _
  have HBn : Hid (w.heap.size ≤ B) := by rw [hB]; exact Nat.le_refl _
  have HR : Hid (W.heap[B]? = some (.cells #[.int .i64 5, .int .i64 o, .int .i64 a, .int .i64 b] 29 (0, 0))) := hrow
  have b1 : W.cell? ⟨B, 1, none⟩ = some (.int .i64 o) := by rw [cell_of_row _ _ 1 _ _ _ hrow]; rfl
  have c2 := HK.out.cell' h2 id
  obtain ⟨y0, y1, y2, y3, y4, y5⟩ := hx
  have z0 := HK.out.cell' y0 id
  have z1 := HK.out.cell' y1 id
  have z2 := HK.out.cell' y2 id
  have z3 := HK.out.cell' y3 id
  have z4 := HK.out.cell' y4 id
  have z5 := HK.out.cell' y5 id
  have hil : i < nl := by have := pickV_bd o nl (by omega); omega
  have HI : Hid (pickV o nl = i) := hi
  clear hW hB hrow h2 y0 y1 y2 y3 y4 y5 hi
  go_region_held3 (fun w' => w'.cell? ⟨m, 2, none⟩ = some (.slice (some ⟨bl, 0, none⟩) nl cl) ∧ w'.cell? ⟨B, 1, none⟩ = some (.int .i64 o) ∧ w'.cell? ⟨bl, i * 6, none⟩ = some (.slice ao n cap) ∧ w'.cell? ⟨bl, i * 6 + 1, none⟩ = some (.int .i64 place) ∧ w'.cell? ⟨bl, i * 6 + 2, none⟩ = some (.pointer (q.map fun b => ⟨b, 0, none⟩)) ∧ w'.cell? ⟨bl, i * 6 + 3, none⟩ = some (.slice ao' n' cap') ∧ w'.cell? ⟨bl, i * 6 + 4, none⟩ = some (.int .i64 place') ∧ w'.cell? ⟨bl, i * 6 + 5, none⟩ = some (.int .i64 who)) (go_keep) ((go_at_call 33; refine (pick_any o nl _ ho0 ho1 (by omega) (by omega)).mono ?_; rw [HI.out]; rintro e w9 ⟨rfl, rfl⟩))
  all_goals
    clear c2 b1 z0 z1 z2 z3 z4 z5
    have KW := Keeps.none_alloc_drew' W (.cells #[.slice ao n cap, .int .i64 place, .pointer (q.map fun b => ⟨b, 0, none⟩), .slice ao' n' cap', .int .i64 place', .int .i64 who] 93)
    have hs : (W.alloc (.cells #[.slice ao n cap, .int .i64 place, .pointer (q.map fun b => ⟨b, 0, none⟩), .slice ao' n' cap', .int .i64 place', .int .i64 who] 93)).drew.heap[W.heap.size]? = some (.cells #[.slice ao n cap, .int .i64 place, .pointer (q.map fun b => ⟨b, 0, none⟩), .slice ao' n' cap', .int .i64 place', .int .i64 who] 93 (0, 0)) := heap_alloc_new W _
    have hr := KW.row HR.out id
    have hk : Keeps w (W.alloc (.cells #[.slice ao n cap, .int .i64 place, .pointer (q.map fun b => ⟨b, 0, none⟩), .slice ao' n' cap', .int .i64 place', .int .i64 who] 93)).drew (fun _ => False) := HK.out.trans KW fun _ _ e => e
    have HXn : Hid (w.heap.size ≤ W.heap.size) := HK.out.size
    clear KW HR HK
    generalize (W.alloc (.cells #[.slice ao n cap, .int .i64 place, .pointer (q.map fun b => ⟨b, 0, none⟩), .slice ao' n' cap', .int .i64 place', .int .i64 who] 93)).drew = W' at *
    generalize W.heap.size = X at *
    obtain ⟨d0, d1, d2, d3⟩ := boxCells4 hr
    obtain ⟨e0, e1, e2, e3, e4, e5⟩ := boxCells6 hs
    have HK : Hid (Keeps w W' (fun _ => False)) := hk
    have HR := hr
    have HR : Hid _ := HR
    have HX := hs
    have HX : Hid _ := HX
    clear hr hs hk
    go_wp2_with fail
    go_at_call 34
    refine (H1.out _).mono ?_
    rintro e w1 ⟨rfl, K1⟩
    have HK1 : Hid (Keeps w w1 (fun _ => False)) := HK.out.trans K1 fun _ _ e => e
    clear d0 d1 d2 d3 e0 e1 e2 e3 e4 e5
    obtain ⟨d0, d1, d2, d3⟩ := boxCells4 (K1.row HR.out id)
    obtain ⟨e0, e1, e2, e3, e4, e5⟩ := boxCells6 (K1.row HX.out id)
    clear K1 HK
    go_wp2_with fail
    go_at_call 44
    refine (H2.out _).mono ?_
    rintro e w2 ⟨rfl, K2⟩
    have HK2 : Hid (Keeps w w2 (fun _ => False)) := HK1.out.trans K2 fun _ _ e => e
    clear K2 HK1 d0 d1 d2 d3 e0 e1 e2 e3 e4 e5
    go_wp2_with fail
    go_ret
    exact ⟨by go_simp, HK2.out⟩

set_option maxRecDepth 100000 in
set_option maxHeartbeats 4000000 in
theorem step_text_ok (m bl nl cl i : Nat) (o a b : Int) (ao : Option Addr) (n cap : Nat) (place : Int) (q : Option Nat) (ao' : Option Addr) (n' cap' : Nat) (place' who : Int) (X0 : ByteArray) (gq : Option Nat) (rs : List (Int × Int)) (T : World → World → Prop) (w : World) (ho0 : -9223372036854775808 ≤ o) (ho1 : o ≤ 9223372036854775807) (hl0 : 0 < nl) (hl1 : nl ≤ 40) (hi : pickV o nl = i)
    (h2 : w.cell? ⟨m, 2, none⟩ = some (.slice (some ⟨bl, 0, none⟩) nl cl)) (hx : SeenAt w bl i (.slice ao n cap) (.int .i64 place) (.pointer (q.map fun b => ⟨b, 0, none⟩)) (.slice ao' n' cap') (.int .i64 place') (.int .i64 who))
    (hlt : ∀ k, (q = some k ∨ gq = some k) → k < w.heap.size)
    (h1 : ∀ W, Keeps w W (fun _ => False) → Calls Try.prog 34 #[viewV ao n cap place q, .int .i64 a, .int .i64 b] W fun e w' => e = .returned (.tuple #[.string X0, .int .i64 0]) ∧ WatDone W w' q gq rs)
    (h2' : ∀ W W1, Keeps w W (fun _ => False) → WatDone W W1 q gq rs → Calls Try.prog 44 #[refV ao' n' cap' place', .int .i64 a, .int .i64 b] W1 fun e w' => e = .returned (.tuple #[.string X0, .int .i64 0]) ∧ Keeps W1 w' (fun _ => False))
    (h3 : ∀ W, Keeps w W (fun k => q = some k ∨ gq = some k) → Calls Try.prog 42 #[.pointer (some ⟨m, 0, none⟩), seenV ao n cap place q ao' n' cap' place' who, .int .i64 a, .int .i64 b] W fun e w' => e = .returned (.tuple #[]) ∧ T W w') :
    Calls Try.prog 9 #[.pointer (some ⟨m, 0, none⟩), opV 5 o a b] w fun e w' => e = .returned (.bool true) ∧ Chain w w' q gq rs T := by
  have H1 : Hid (∀ W, Keeps w W (fun _ => False) → Calls Try.prog 34 #[viewV ao n cap place q, .int .i64 a, .int .i64 b] W fun e w' => e = .returned (.tuple #[.string X0, .int .i64 0]) ∧ WatDone W w' q gq rs) := h1
  have H2 : Hid (∀ W W1, Keeps w W (fun _ => False) → WatDone W W1 q gq rs → Calls Try.prog 44 #[refV ao' n' cap' place', .int .i64 a, .int .i64 b] W1 fun e w' => e = .returned (.tuple #[.string X0, .int .i64 0]) ∧ Keeps W1 w' (fun _ => False)) := h2'
  have H3 : Hid (∀ W, Keeps w W (fun k => q = some k ∨ gq = some k) → Calls Try.prog 42 #[.pointer (some ⟨m, 0, none⟩), seenV ao n cap place q ao' n' cap' place' who, .int .i64 a, .int .i64 b] W fun e w' => e = .returned (.tuple #[]) ∧ T W w') := h3
  have HL : Hid (∀ k, (q = some k ∨ gq = some k) → k < w.heap.size) := hlt
  clear h1 h2' h3 hlt
  unfold opV
  go_enter Try.func9, Try.ntmps9
  go_wp2
  obtain ⟨W, hW⟩ : ∃ W, W = w.alloc (.cells #[.int .i64 5, .int .i64 o, .int .i64 a, .int .i64 b] 29) := ⟨_, rfl⟩
  obtain ⟨B, hB⟩ : ∃ B, B = w.heap.size := ⟨_, rfl⟩
  rw [← hW, ← hB]
  have hrow : W.heap[B]? = some (.cells #[.int .i64 5, .int .i64 o, .int .i64 a, .int .i64 b] 29 (0, 0)) := by rw [hW, hB]; exact heap_alloc_new w _
  have HK : Hid (Keeps w W (fun _ => False)) := by rw [hW]; exact (Keeps.refl _ _).alloc _
  have HBn : Hid (w.heap.size ≤ B) := by rw [hB]; exact Nat.le_refl _
  have HR : Hid (W.heap[B]? = some (.cells #[.int .i64 5, .int .i64 o, .int .i64 a, .int .i64 b] 29 (0, 0))) := hrow
  have b1 : W.cell? ⟨B, 1, none⟩ = some (.int .i64 o) := by rw [cell_of_row _ _ 1 _ _ _ hrow]; rfl
  have c2 := HK.out.cell' h2 id
  obtain ⟨y0, y1, y2, y3, y4, y5⟩ := hx
  have z0 := HK.out.cell' y0 id
  have z1 := HK.out.cell' y1 id
  have z2 := HK.out.cell' y2 id
  have z3 := HK.out.cell' y3 id
  have z4 := HK.out.cell' y4 id
  have z5 := HK.out.cell' y5 id
  have hil : i < nl := by have := pickV_bd o nl (by omega); omega
  have HI : Hid (pickV o nl = i) := hi
  clear hW hB hrow h2 y0 y1 y2 y3 y4 y5 hi
  go_region_held3 (fun w' => w'.cell? ⟨m, 2, none⟩ = some (.slice (some ⟨bl, 0, none⟩) nl cl) ∧ w'.cell? ⟨B, 1, none⟩ = some (.int .i64 o) ∧ w'.cell? ⟨bl, i * 6, none⟩ = some (.slice ao n cap) ∧ w'.cell? ⟨bl, i * 6 + 1, none⟩ = some (.int .i64 place) ∧ w'.cell? ⟨bl, i * 6 + 2, none⟩ = some (.pointer (q.map fun b => ⟨b, 0, none⟩)) ∧ w'.cell? ⟨bl, i * 6 + 3, none⟩ = some (.slice ao' n' cap') ∧ w'.cell? ⟨bl, i * 6 + 4, none⟩ = some (.int .i64 place') ∧ w'.cell? ⟨bl, i * 6 + 5, none⟩ = some (.int .i64 who)) (go_keep) ((go_at_call 33; refine (pick_any o nl _ ho0 ho1 (by omega) (by omega)).mono ?_; rw [HI.out]; rintro e w9 ⟨rfl, rfl⟩))
  all_goals
    clear c2 b1 z0 z1 z2 z3 z4 z5
    have KW := Keeps.none_alloc_drew' W (.cells #[.slice ao n cap, .int .i64 place, .pointer (q.map fun b => ⟨b, 0, none⟩), .slice ao' n' cap', .int .i64 place', .int .i64 who] 93)
    have hs : (W.alloc (.cells #[.slice ao n cap, .int .i64 place, .pointer (q.map fun b => ⟨b, 0, none⟩), .slice ao' n' cap', .int .i64 place', .int .i64 who] 93)).drew.heap[W.heap.size]? = some (.cells #[.slice ao n cap, .int .i64 place, .pointer (q.map fun b => ⟨b, 0, none⟩), .slice ao' n' cap', .int .i64 place', .int .i64 who] 93 (0, 0)) := heap_alloc_new W _
    have hr := KW.row HR.out id
    have hk : Keeps w (W.alloc (.cells #[.slice ao n cap, .int .i64 place, .pointer (q.map fun b => ⟨b, 0, none⟩), .slice ao' n' cap', .int .i64 place', .int .i64 who] 93)).drew (fun _ => False) := HK.out.trans KW fun _ _ e => e
    have HXn : Hid (w.heap.size ≤ W.heap.size) := HK.out.size
    clear KW HR HK
    generalize (W.alloc (.cells #[.slice ao n cap, .int .i64 place, .pointer (q.map fun b => ⟨b, 0, none⟩), .slice ao' n' cap', .int .i64 place', .int .i64 who] 93)).drew = W' at *
    generalize W.heap.size = X at *
    obtain ⟨d0, d1, d2, d3⟩ := boxCells4 hr
    obtain ⟨e0, e1, e2, e3, e4, e5⟩ := boxCells6 hs
    have HK : Hid (Keeps w W' (fun _ => False)) := hk
    have HR := hr
    have HR : Hid _ := HR
    have HX := hs
    have HX : Hid _ := HX
    clear hr hs hk
    go_wp2_with fail
    go_at_call 34
    refine (H1.out _ HK.out).mono ?_
    rintro e w1 ⟨rfl, D1⟩
    have hB' := HBn.out
    have hX' := HXn.out
    have hr1 := D1.sub.row HR.out fun e => by have := HL.out _ e; omega
    have hs1 := D1.sub.row HX.out fun e => by have := HL.out _ e; omega
    have HKq : Hid (Keeps w w1 (fun k => q = some k ∨ gq = some k)) := (HK.out.mono fun _ _ e => e.elim).trans D1.sub fun _ _ e => e
    have HD : Hid (WatDone W' w1 q gq rs) := D1
    clear d0 d1 d2 d3 e0 e1 e2 e3 e4 e5 D1 HR HX hB' hX'
    obtain ⟨d0, d1, d2, d3⟩ := boxCells4 hr1
    obtain ⟨e0, e1, e2, e3, e4, e5⟩ := boxCells6 hs1
    have HR := hr1
    have HR : Hid _ := HR
    have HX := hs1
    have HX : Hid _ := HX
    clear hr1 hs1
    go_wp2_with fail
    go_at_call 44
    refine (H2.out W' _ HK.out HD.out).mono ?_
    rintro e w2 ⟨rfl, K2⟩
    have HK2 : Hid (Keeps w1 w2 (fun _ => False)) := K2
    clear d0 d1 d2 d3 e0 e1 e2 e3 e4 e5
    obtain ⟨d0, d1, d2, d3⟩ := boxCells4 (K2.row HR.out id)
    obtain ⟨e0, e1, e2, e3, e4, e5⟩ := boxCells6 (K2.row HX.out id)
    clear K2
    go_wp2_with fail
    go_at_call 42
    refine (H3.out _ (HKq.out.trans HK2.out fun _ _ e => e.elim)).mono ?_
    rintro e w3 ⟨rfl, HT⟩
    have HT : Hid (T w2 w3) := HT
    clear d0 d1 d2 d3 e0 e1 e2 e3 e4 e5
    go_wp2_with fail
    go_ret
    exact ⟨by go_simp, W', w1, w2, HK.out, HD.out, HK2.out, HT.out⟩

end Go.Proofs.Ytomlndoffoeaiaa.Kit
