import Derived.Test.YtkodgneneiledaaGreatDoorFF
import Derived.Test.YtkodgneneiledaaGreatDoorTP
import Derived.Deep.RegionHeld3
namespace Go.Proofs.YtkodgneneiledaaGreatDoor.Kit
open Go.RowKit Go.Shelf Go.Deep
set_option linter.unusedVariables false

/-! ### the parser in memory: a text and how far it is read, at block p -/
theorem hidP {p : Prop} (h : p) : Hid p := h
structure TAt (W : World) (p : Nat) (s : ByteArray) (a : Nat) (no : Value) : Prop where
  box : W.heap[p]? = some (.cells #[.string s, .int .i64 (a : Int), no] 87 (0, 0))
  len : s.size ≤ 65536
  pos : a ≤ s.size
theorem TAt.cells {W : World} {p : Nat} {s : ByteArray} {a : Nat} {no : Value} (h : TAt W p s a no) : W.cell? ⟨p, 0, none⟩ = some (.string s) ∧ W.cell? ⟨p, 1, none⟩ = some (.int .i64 (a : Int)) := by simp [World.cell?, h.box]
theorem TAt.frz {W : World} {p : Nat} {s : ByteArray} {a : Nat} {no : Value} (h : TAt W p s a no) : W.frozen? ⟨p, 1, none⟩ = false := by simp [World.frozen?, h.box]
theorem TAt.lt {W : World} {p : Nat} {s : ByteArray} {a : Nat} {no : Value} (h : TAt W p s a no) : p < W.heap.size := (Array.getElem?_eq_some_iff.1 h.box).1
theorem TAt.gr {W W' : World} {p : Nat} {s : ByteArray} {a : Nat} {no : Value} (h : TAt W p s a no) (k : Gr W W') : TAt W' p s a no := ⟨(k.block p h.lt id).trans h.box, h.len, h.pos⟩
theorem TAt.set {W : World} {p : Nat} {s : ByteArray} {a a' : Nat} {no : Value} (h : TAt W p s a no) (ha : a' ≤ s.size) : TAt (W.setCell ⟨p, 1, none⟩ (.int .i64 (a' : Int))) p s a' no := by
  refine ⟨?_, h.len, ha⟩
  rw [heap_setCell_same W p 1 _ _ _ h.box]
  simp
def atOf (W : World) (p : Nat) : Nat := match W.cell? ⟨p, 1, none⟩ with | some (.int .i64 n) => n.toNat | _ => 0
theorem TAt.at {W : World} {p : Nat} {s : ByteArray} {a : Nat} {no : Value} (h : TAt W p s a no) : atOf W p = a := by unfold atOf; rw [h.cells.2]; simp
/-- only the reader has changed -/
abbrev KpR (W W' : World) (p : Nat) : Prop := Keeps W W' (fun z => z = p)
theorem KpR.put {W u : World} {p : Nat} (h : KpR W u p) (v : Value) : KpR W (u.setCell ⟨p, 1, none⟩ v) p := h.setCell (p := ⟨p, 1, none⟩) (fun _ => rfl) v
theorem KpR.gr {W u v : World} {p : Nat} (h : KpR W u p) (g : Gr u v) : KpR W v p := h.trans (g.mono (T := fun z => z = p) fun _ _ h => h.elim) fun _ _ h => h
/-! isBlank 47 -/
set_option maxRecDepth 100000 in
set_option maxHeartbeats 1000000 in
theorem isBlank_any (c : UInt8) (w : World) : Calls Tryz.prog 77 #[.int .u8 (c.toNat : Int)] w fun e w' => e = .returned (.bool (blankB c)) ∧ w' = w := by
  have hb : blankB c = (decide (c.toNat = 32) || decide (c.toNat = 9) || decide (c.toNat = 10)) := by
    unfold blankB
    rw [Bool.eq_iff_iff]
    simp only [Bool.or_eq_true, beq_iff_eq, decide_eq_true_eq]
    constructor
    · rintro ((rfl | rfl) | rfl) <;> decide
    · rintro ((h | h) | h)
      · exact .inl (.inl (UInt8.toNat_inj.1 h))
      · exact .inl (.inr (UInt8.toNat_inj.1 h))
      · exact .inr (UInt8.toNat_inj.1 h)
  rw [hb]
  clear hb
  generalize c.toNat = n
  go_enter Tryz.func77, Tryz.ntmps77
  go_wp2
  all_goals
    go_ret
    refine ⟨congrArg (fun b => Ending.returned (.bool b)) ?_, rfl⟩
    rw [Bool.eq_iff_iff]
    simp
    try omega
end Go.Proofs.YtkodgneneiledaaGreatDoor.Kit
namespace Go.Proofs.YtkodgneneiledaaGreatDoor.Kit
open Go.RowKit Go.Shelf Go.Deep
set_option linter.unusedVariables false

/-! ### peek 27 -/
theorem drop_at {s : ByteArray} {k : Nat} (h : k < s.size) : s.data.toList.drop k = s[k]'h :: s.data.toList.drop (k + 1) := by
  rw [List.drop_eq_getElem_cons (by simpa using h)]
  rfl
theorem drop_end (s : ByteArray) : s.data.toList.drop s.size = [] := List.drop_of_length_le (by simp)
theorem skN_yes {c : UInt8} {l : List UInt8} (h : blankB c = true) : skN (c :: l) = skN l + 1 ∧ sk (c :: l) = sk l := by
  unfold skN sk
  rw [List.takeWhile_cons_of_pos h, List.dropWhile_cons_of_pos h]
  exact ⟨rfl, rfl⟩
theorem skN_no {c : UInt8} {l : List UInt8} (h : blankB c = false) : skN (c :: l) = 0 := by
  unfold skN
  rw [List.takeWhile_cons_of_neg (by simp [h])]
  rfl
theorem skN_le (s : ByteArray) {a : Nat} (h : a ≤ s.size) : a + skN (s.data.toList.drop a) ≤ s.size := by
  have h1 : skN (s.data.toList.drop a) ≤ (s.data.toList.drop a).length := (List.takeWhile_prefix _).length_le
  rw [List.length_drop] at h1
  have h2 : s.data.toList.length = s.size := by simp
  omega
set_option maxRecDepth 100000 in
set_option maxHeartbeats 4000000 in
theorem peek_any (p : Nat) (s : ByteArray) (no : Value) (W : World) (a : Nat) (hR : TAt W p s a no) : Calls Tryz.prog 50 #[.pointer (some ⟨p, 0, none⟩)] W fun e w' =>
    e = .returned (.int .u8 (((sk (s.data.toList.drop a)).headD 0).toNat : Int)) ∧ KpR W w' p ∧ TAt w' p s (a + skN (s.data.toList.drop a)) no := by
  have HR := hidP hR
  have hsz : s.size ≤ 65536 := hR.len
  clear hR
  go_enter Tryz.func50, Tryz.ntmps50
  go_wp2_with fail
  go_loopw [] (fun wr => ∃ k : Nat, k ≤ s.size ∧ Hid (KpR W wr p ∧ TAt wr p s k no ∧ k + skN (s.data.toList.drop k) = a + skN (s.data.toList.drop a) ∧ sk (s.data.toList.drop k) = sk (s.data.toList.drop a))) (fun wr => s.size - atOf wr p)
  case atStart => exact ⟨a, HR.out.pos, Keeps.refl _ _, HR.out, rfl, rfl⟩
  case round =>
    obtain ⟨k, hk, HK⟩ := hrel
    have hc := HK.out.2.1.cells
    have hsk : IntKind.i64.wrap ((k : Int) + 1) = ((k + 1 : Nat) : Int) := by rw [IntKind.wrap_i64]; omega
    obtain ⟨c0, c1⟩ := hc
    have HC : Hid (wr.drew.cell? ⟨p, 0, none⟩ = some (.string s) ∧ wr.drew.cell? ⟨p, 1, none⟩ = some (.int .i64 (k : Int))) := ⟨c0, c1⟩
    have HG : Hid (Gr wr wr.drew) := (Keeps.refl wr (fun _ => False)).drew
    clear c0 c1
    by_cases hlt : k < s.size
    · have hb := fun w => isBlank_any (s[k]'hlt) w
      have HD := hidP (drop_at hlt)
      cases hbl : blankB (s[k]'hlt) with
      | true =>
        rw [hbl] at hb
        have HY := hidP (skN_yes (l := s.data.toList.drop (k + 1)) hbl)
        clear hbl
        have HB := hidP hb
        clear hb
        go_wp2_with fail
        go_region_held3 (fun w' => w'.cell? ⟨p, 0, none⟩ = some (.string s) ∧ w'.cell? ⟨p, 1, none⟩ = some (.int .i64 (k : Int))) (with_reducible exact HC.out) (first | (go_at_call 77; refine Calls.mono (HB.out _) ?_; rintro e u1 ⟨rfl, rfl⟩))
        have HR1 := hidP (HK.out.2.1.gr HG.out)
        clear HC; (try clear hHeld)
        generalize wr.drew = u at HG HR1 ⊢
        obtain ⟨d0, d1⟩ := HR1.out.cells
        have z1 := HR1.out.frz
        have HK2 : Hid (KpR W (u.setCell ⟨p, 1, none⟩ (.int .i64 ((k + 1 : Nat) : Int))) p ∧ TAt (u.setCell ⟨p, 1, none⟩ (.int .i64 ((k + 1 : Nat) : Int))) p s (k + 1) no ∧ (k + 1) + skN (s.data.toList.drop (k + 1)) = a + skN (s.data.toList.drop a) ∧ sk (s.data.toList.drop (k + 1)) = sk (s.data.toList.drop a)) := by
          refine ⟨(HK.out.1.gr HG.out).put _, HR1.out.set (by omega), ?_, ?_⟩
          · have := HK.out.2.2.1; rw [HD.out, HY.out.1] at this; omega
          · have := HK.out.2.2.2; rw [HD.out, HY.out.2] at this; exact this
        have HM : Hid (atOf (u.setCell ⟨p, 1, none⟩ (.int .i64 ((k + 1 : Nat) : Int))) p = k + 1 ∧ atOf wr p = k) := ⟨HK2.out.2.1.at, HK.out.2.1.at⟩
        go_wp2_with fail
        go_roundw
        case rel => exact ⟨k + 1, by omega, HK2⟩
        case measure =>
          have h1 := HM.out.1
          have h2 := HM.out.2
          rw [h2]
          refine Nat.lt_of_le_of_lt (Nat.le_of_eq (congrArg (s.size - ·) h1)) ?_
          omega
      | false =>
        rw [hbl] at hb
        have HY := hidP (skN_no (l := s.data.toList.drop (k + 1)) hbl)
        have HS := hidP (sk_of (l := s.data.toList.drop (k + 1)) hbl)
        clear hbl
        have HB := hidP hb
        clear hb
        go_wp2_with fail
        go_region_held3 (fun w' => w'.cell? ⟨p, 0, none⟩ = some (.string s) ∧ w'.cell? ⟨p, 1, none⟩ = some (.int .i64 (k : Int))) (with_reducible exact HC.out) (first | (go_at_call 77; refine Calls.mono (HB.out _) ?_; rintro e u1 ⟨rfl, rfl⟩))
        have HR1 := hidP (HK.out.2.1.gr HG.out)
        clear HC; (try clear hHeld)
        generalize wr.drew = u at HG HR1 ⊢
        obtain ⟨d0, d1⟩ := HR1.out.cells
        have hne : ((k : Int) == (s.size : Int)) = false := beq_eq_false_iff_ne.2 (by omega)
        go_wp2_with fail
        go_region
        go_wp2_with fail
        go_region
        go_wp2_with fail
        go_ret
        have HG2 : Gr u u.drew.drew := (Keeps.refl u (fun _ => False)).drew.drew
        have hpos : k = a + skN (s.data.toList.drop a) := by have := HK.out.2.2.1; rw [HD.out, HY.out] at this; omega
        have hv : s[k]'hlt = (sk (s.data.toList.drop a)).headD 0 := by rw [← HK.out.2.2.2, HD.out, HS.out]; rfl
        refine ⟨congrArg (fun n : UInt8 => Ending.returned (.int .u8 (n.toNat : Int))) hv, (HK.out.1.gr HG.out).gr HG2, ?_⟩
        rw [← hpos]
        exact HR1.out.gr HG2
    · obtain rfl : k = s.size := by omega
      obtain ⟨d0, d1⟩ := HK.out.2.1.cells
      clear HC
      go_wp2_with fail
      go_region
      go_wp2_with fail
      go_region
      go_wp2_with fail
      go_ret
      have HG2 : Gr wr wr.drew.drew := (Keeps.refl wr (fun _ => False)).drew.drew
      have HE := drop_end s
      have hpos : s.size = a + skN (s.data.toList.drop a) := by have := HK.out.2.2.1; rw [HE] at this; exact this
      have hv : (0 : UInt8) = (sk (s.data.toList.drop a)).headD 0 := by rw [← HK.out.2.2.2, HE]; rfl
      refine ⟨congrArg (fun n : UInt8 => Ending.returned (.int .u8 (n.toNat : Int))) hv, HK.out.1.gr HG2, ?_⟩
      rw [← hpos]
      exact HK.out.2.1.gr HG2
end Go.Proofs.YtkodgneneiledaaGreatDoor.Kit
namespace Go.Proofs.YtkodgneneiledaaGreatDoor.Kit
open Go.RowKit Go.Shelf Go.Deep
set_option linter.unusedVariables false

/-! ### what a function of the parser does that keeps no name: it answers, or gives up at a place -/
def stuckV (o : Nat) : Value := .iface 85 (.int .i64 (o : Int))
def PrQ {α : Type} (W : World) (p : Nat) (s : ByteArray) (no : Value) (g : List Nat) (r : Except Nat (α × Ps)) (V : α → Value → Prop) (e : Ending) (w' : World) : Prop :=
  KpR W w' p ∧
  match r with
  | .ok (x, a', g') => g' = g ∧ ∃ v, e = .returned v ∧ V x v ∧ TAt w' p s a' no
  | .error o => e = .panicked [{ v := stuckV o, recovered := false }]
def PrC {α : Type} (p : Nat) (s : ByteArray) (F : Nat) (args : Array Value) (r : Pr α) (V : α → Value → Prop) : Prop :=
  ∀ no W a g, TAt W p s a no → Calls Tryz.prog F args W (PrQ W p s no g (r (a, g)) V)
theorem PrQ.ok {α : Type} {W w' : World} {p : Nat} {s : ByteArray} {no : Value} {g : List Nat} {r : Except Nat (α × Ps)} {V : α → Value → Prop} {x : α} {a : Nat} {v : Value} (hk : KpR W w' p) (hr : r = .ok (x, (a, g))) (hv : V x v) (hR : TAt w' p s a no) : PrQ W p s no g r V (.returned v) w' := ⟨hk, by rw [hr]; exact ⟨rfl, v, rfl, hv, hR⟩⟩
theorem PrQ.err {α : Type} {W w' : World} {p : Nat} {s : ByteArray} {no : Value} {g : List Nat} {r : Except Nat (α × Ps)} {V : α → Value → Prop} {o : Nat} (hk : KpR W w' p) (hr : r = .error o) : PrQ W p s no g r V (.panicked [{ v := stuckV o, recovered := false }]) w' := ⟨hk, by rw [hr]⟩
def bQ : Bool → Value → Prop := fun b v => v = .bool b
def nQ {α : Type} : α → Value → Prop := fun _ v => v = .tuple #[]
theorem takes_yes {T : List UInt8} {c : UInt8} {a : Nat} (g : List Nat) (h : (sk (T.drop a)).headD 0 = c) : takesP T c (a, g) = .ok (true, (a + skN (T.drop a) + 1, g)) := (Pr.bind_ok rfl).trans (if_pos h)
theorem takes_no {T : List UInt8} {c : UInt8} {a : Nat} (g : List Nat) (h : (sk (T.drop a)).headD 0 ≠ c) : takesP T c (a, g) = .ok (false, (a + skN (T.drop a), g)) := (Pr.bind_ok rfl).trans (if_neg h)
theorem head_lt {s : ByteArray} {c : UInt8} {a : Nat} (hc : c ≠ 0) (ha : a ≤ s.size) (h : (sk (s.data.toList.drop a)).headD 0 = c) : a + skN (s.data.toList.drop a) + 1 ≤ s.size := by
  have h1 := skN_le s ha
  have h2 := drop_sk s.data.toList a
  refine Nat.lt_of_le_of_ne h1 fun e => ?_
  rw [e, drop_end] at h2
  rw [← h2] at h
  exact hc h.symm
/-! ### takes 29 -/
set_option maxRecDepth 100000 in
set_option maxHeartbeats 4000000 in
theorem takes_any (p : Nat) (s : ByteArray) (c : UInt8) (hc : c ≠ 0) : PrC p s 52 #[.pointer (some ⟨p, 0, none⟩), .int .u8 (c.toNat : Int)] (takesP s.data.toList c) bQ := by
  intro no W a g hR
  have HP := hidP (peek_any p s no W a hR)
  have HL := hidP hR.len
  have HA := hidP hR.pos
  clear hR
  by_cases h : (sk (s.data.toList.drop a)).headD 0 = c
  · have HE := hidP (takes_yes g h)
    have HT := hidP (head_lt hc HA.out h)
    rw [h] at HP
    clear h
    rw [HE.out]
    have hl : a + skN (s.data.toList.drop a) ≤ 65536 := by have := HT.out; have := HL.out; omega
    generalize a + skN (s.data.toList.drop a) = b at HP HT hl ⊢
    have hsk : IntKind.i64.wrap ((b : Int) + 1) = ((b + 1 : Nat) : Int) := by rw [IntKind.wrap_i64]; omega
    generalize c.toNat = cn at HP ⊢
    go_enter Tryz.func52, Tryz.ntmps52
    go_wp2_with (go_at_call 50; refine Calls.mono HP.out ?_; rintro e u ⟨rfl, hk, ht⟩; have d0 := ht.cells.1; have d1 := ht.cells.2; have z1 := ht.frz; have HK := hidP hk; have HR := hidP ht; clear hk ht)
    go_ret
    exact PrQ.ok (HK.out.put _) rfl rfl (HR.out.set HT.out)
  · have HE := hidP (takes_no g h)
    rw [HE.out]
    have hne : (((((sk (s.data.toList.drop a)).headD 0).toNat : Int)) == (c.toNat : Int)) = false := beq_eq_false_iff_ne.2 fun e => h (UInt8.toNat_inj.1 (by omega))
    clear h
    generalize ((sk (s.data.toList.drop a)).headD 0).toNat = x at HP hne
    generalize a + skN (s.data.toList.drop a) = b at HP ⊢
    generalize c.toNat = cn at hne ⊢
    go_enter Tryz.func52, Tryz.ntmps52
    go_wp2_with (go_at_call 50; refine Calls.mono HP.out ?_; rintro e u ⟨rfl, hk, ht⟩; have d0 := ht.cells.1; have d1 := ht.cells.2; have z1 := ht.frz; have HK := hidP hk; have HR := hidP ht; clear hk ht)
    go_ret
    exact PrQ.ok HK.out rfl rfl HR.out
/-! ### must 63 -/
theorem must_yes {T : List UInt8} {c : UInt8} {a : Nat} {s : Ps} {g : List Nat} (h : takesP T c (a, g) = .ok (true, s)) : mustP T c (a, g) = .ok ((), s) := (Pr.bind_ok h).trans (if_pos rfl)
theorem must_no {T : List UInt8} {c : UInt8} {a : Nat} {s : Ps} {g : List Nat} (h : takesP T c (a, g) = .ok (false, s)) : mustP T c (a, g) = .error s.1 := (Pr.bind_ok h).trans (if_neg (by decide))
set_option maxRecDepth 100000 in
set_option maxHeartbeats 4000000 in
theorem must_any (p : Nat) (s : ByteArray) (c : UInt8) (hc : c ≠ 0) : PrC p s 91 #[.pointer (some ⟨p, 0, none⟩), .int .u8 (c.toNat : Int)] (mustP s.data.toList c) nQ := by
  intro no W a g hR
  have ht := takes_any p s c hc no W a g hR
  clear hR
  by_cases h : (sk (s.data.toList.drop a)).headD 0 = c
  · rw [takes_yes g h] at ht
    have HE := hidP (must_yes (takes_yes g h))
    have HT := hidP ht
    clear ht h
    rw [HE.out]
    go_enter Tryz.func91, Tryz.ntmps91
    go_wp2_with (go_at_call 52; refine Calls.mono HT.out ?_; rintro e u ⟨hk, _, v, rfl, rfl, ht⟩; have d0 := ht.cells.1; have d1 := ht.cells.2; have z1 := ht.frz; have HK := hidP hk; have HR := hidP ht; clear hk ht)
    go_end0
    exact PrQ.ok HK.out rfl rfl HR.out
  · rw [takes_no g h] at ht
    have HE := hidP (must_no (takes_no g h))
    have HT := hidP ht
    clear ht h
    rw [HE.out]
    generalize a + skN (s.data.toList.drop a) = b at HT ⊢
    go_enter Tryz.func91, Tryz.ntmps91
    go_wp2_with (go_at_call 52; refine Calls.mono HT.out ?_; rintro e u ⟨hk, _, v, rfl, rfl, ht⟩; have d0 := ht.cells.1; have d1 := ht.cells.2; have z1 := ht.frz; have HK := hidP hk; have HR := hidP ht; clear hk ht)
    exact ⟨rfl, PrQ.err HK.out rfl⟩
/-! ### end 26 -/
set_option maxRecDepth 100000 in
set_option maxHeartbeats 4000000 in
theorem end_any (p : Nat) (s : ByteArray) : PrC p s 49 #[.pointer (some ⟨p, 0, none⟩)] (endP s.data.toList) nQ := by
  intro no W a g hR
  have HP := hidP (peek_any p s no W a hR)
  clear hR
  have hsz : s.data.toList.length = s.size := by simp
  by_cases h : a + skN (s.data.toList.drop a) < s.size
  · have HE : Hid (endP s.data.toList (a, g) = .error (a + skN (s.data.toList.drop a))) := (Pr.bind_ok rfl).trans (if_pos (by rw [hsz]; exact h))
    rw [HE.out]
    clear hsz HE
    generalize ((sk (s.data.toList.drop a)).headD 0).toNat = x at HP
    generalize a + skN (s.data.toList.drop a) = b at HP h ⊢
    go_enter Tryz.func49, Tryz.ntmps49
    go_wp2_with (go_at_call 50; refine Calls.mono HP.out ?_; rintro e u ⟨rfl, hk, ht⟩; have d0 := ht.cells.1; have d1 := ht.cells.2; have z1 := ht.frz; have HK := hidP hk; have HR := hidP ht; clear hk ht)
    go_region
    go_wp2_with fail
    exact ⟨rfl, PrQ.err (HK.out.gr (Keeps.refl u (fun _ => False)).drew) rfl⟩
  · have HE : Hid (endP s.data.toList (a, g) = .ok ((), (a + skN (s.data.toList.drop a), g))) := (Pr.bind_ok rfl).trans (if_neg (by rw [hsz]; exact h))
    rw [HE.out]
    clear hsz HE
    generalize ((sk (s.data.toList.drop a)).headD 0).toNat = x at HP
    generalize a + skN (s.data.toList.drop a) = b at HP h ⊢
    go_enter Tryz.func49, Tryz.ntmps49
    go_wp2_with (go_at_call 50; refine Calls.mono HP.out ?_; rintro e u ⟨rfl, hk, ht⟩; have d0 := ht.cells.1; have d1 := ht.cells.2; have z1 := ht.frz; have HK := hidP hk; have HR := hidP ht; clear hk ht)
    go_region
    go_wp2_with fail
    go_end0
    exact PrQ.ok (HK.out.gr (Keeps.refl u (fun _ => False)).drew) rfl rfl (HR.out.gr (Keeps.refl u (fun _ => False)).drew)
end Go.Proofs.YtkodgneneiledaaGreatDoor.Kit
namespace Go.Proofs.YtkodgneneiledaaGreatDoor.Kit
open Go.RowKit Go.Shelf Go.Deep
set_option linter.unusedVariables false

/-! ### word 75 -/
def wN (l : List UInt8) : Nat := (wordsB l).length
theorem wN_yes {c : UInt8} {l : List UInt8} (h : wordB c.toNat = true) : wN (c :: l) = wN l + 1 := by
  unfold wN wordsB
  rw [List.takeWhile_cons_of_pos (p := fun b : UInt8 => wordB b.toNat) h]
  rfl
theorem wN_no {c : UInt8} {l : List UInt8} (h : wordB c.toNat = false) : wN (c :: l) = 0 := by
  unfold wN wordsB
  rw [List.takeWhile_cons_of_neg (by simp [h])]
  rfl
theorem wN_le (s : ByteArray) {a : Nat} (h : a ≤ s.size) : a + wN (s.data.toList.drop a) ≤ s.size := by
  have h1 : wN (s.data.toList.drop a) ≤ (s.data.toList.drop a).length := (List.takeWhile_prefix _).length_le
  rw [List.length_drop] at h1
  have h2 : s.data.toList.length = s.size := by simp
  omega
theorem word_ext {s : ByteArray} {b k : Nat} (h : k = b + wN (s.data.toList.drop b)) : s.extract b k = ⟨(wordsB (s.data.toList.drop b)).toArray⟩ := by
  have h1 : wordsB (s.data.toList.drop b) = (s.data.toList.drop b).take (wN (s.data.toList.drop b)) := List.prefix_iff_eq_take.1 (List.takeWhile_prefix _)
  apply ByteArray.ext
  rw [ByteArray.data_extract]
  apply Array.toList_inj.1
  rw [Array.toList_extract, h1, h]
  simp [List.extract_eq_take_drop]
def wQ : ByteArray × Nat → Value → Prop := fun x v => v = .tuple #[.string x.1, .int .i64 (x.2 : Int)]
set_option maxRecDepth 100000 in
set_option maxHeartbeats 4000000 in
theorem word_any (p : Nat) (s : ByteArray) : PrC p s 86 #[.pointer (some ⟨p, 0, none⟩)] (wordP s.data.toList) wQ := by
  intro no W a g hR
  have HP := hidP (peek_any p s no W a hR)
  have hsz := hR.len
  have HA := hidP (skN_le s hR.pos)
  clear hR
  have HE : Hid (wordP s.data.toList (a, g) = .ok ((⟨(wordsB (s.data.toList.drop (a + skN (s.data.toList.drop a)))).toArray⟩, a + skN (s.data.toList.drop a)), (a + skN (s.data.toList.drop a) + wN (s.data.toList.drop (a + skN (s.data.toList.drop a))), g))) := by
    show _ = _
    exact rfl
  rw [HE.out]
  clear HE
  generalize ((sk (s.data.toList.drop a)).headD 0).toNat = x at HP
  generalize a + skN (s.data.toList.drop a) = b at HP HA ⊢
  go_enter Tryz.func86, Tryz.ntmps86
  go_wp2_with (go_at_call 50; refine Calls.mono HP.out ?_; rintro e u ⟨rfl, hk, ht⟩; have d0 := ht.cells.1; have d1 := ht.cells.2; have z1 := ht.frz; have HK := hidP hk; have HR := hidP ht; clear hk ht)
  clear d0 d1 z1 HP
  go_loopw [] (fun wr => ∃ k : Nat, b ≤ k ∧ k ≤ s.size ∧ Hid (KpR W wr p ∧ TAt wr p s k no ∧ k + wN (s.data.toList.drop k) = b + wN (s.data.toList.drop b))) (fun wr => s.size - atOf wr p)
  case atStart => exact ⟨b, by omega, HA.out, HK.out, HR.out, rfl⟩
  case round =>
    clear HK HR
    obtain ⟨k, hbk, hk, HK⟩ := hrel
    have hsk : IntKind.i64.wrap ((k : Int) + 1) = ((k + 1 : Nat) : Int) := by rw [IntKind.wrap_i64]; omega
    obtain ⟨c0, c1⟩ := HK.out.2.1.cells
    have HC : Hid (wr.drew.cell? ⟨p, 0, none⟩ = some (.string s) ∧ wr.drew.cell? ⟨p, 1, none⟩ = some (.int .i64 (k : Int))) := ⟨c0, c1⟩
    have HG : Hid (Gr wr wr.drew) := (Keeps.refl wr (fun _ => False)).drew
    clear c0 c1
    by_cases hlt : k < s.size
    · have hb := fun w => isWordByte_any (s[k]'hlt).toNat w
      have HD := hidP (drop_at hlt)
      cases hbl : wordB (s[k]'hlt).toNat with
      | true =>
        rw [hbl] at hb
        have HY := hidP (wN_yes (l := s.data.toList.drop (k + 1)) hbl)
        clear hbl
        have HB := hidP hb
        clear hb
        go_wp2_with fail
        go_region_held3 (fun w' => w'.cell? ⟨p, 0, none⟩ = some (.string s) ∧ w'.cell? ⟨p, 1, none⟩ = some (.int .i64 (k : Int))) (with_reducible exact HC.out) (first | (go_at_call 111; refine Calls.mono (HB.out _) ?_; rintro e u1 ⟨rfl, rfl⟩))
        have HR1 := hidP (HK.out.2.1.gr HG.out)
        clear HC
        generalize wr.drew = u at HG HR1 ⊢
        obtain ⟨d0, d1⟩ := HR1.out.cells
        have z1 := HR1.out.frz
        have HK2 : Hid (KpR W (u.setCell ⟨p, 1, none⟩ (.int .i64 ((k + 1 : Nat) : Int))) p ∧ TAt (u.setCell ⟨p, 1, none⟩ (.int .i64 ((k + 1 : Nat) : Int))) p s (k + 1) no ∧ (k + 1) + wN (s.data.toList.drop (k + 1)) = b + wN (s.data.toList.drop b)) := by
          refine ⟨(HK.out.1.gr HG.out).put _, HR1.out.set (by omega), ?_⟩
          have := HK.out.2.2; rw [HD.out, HY.out] at this; omega
        have HM : Hid (atOf (u.setCell ⟨p, 1, none⟩ (.int .i64 ((k + 1 : Nat) : Int))) p = k + 1 ∧ atOf wr p = k) := ⟨HK2.out.2.1.at, HK.out.2.1.at⟩
        go_wp2_with fail
        go_roundw
        case rel => exact ⟨k + 1, by omega, by omega, HK2⟩
        case measure =>
          have h1 := HM.out.1
          have h2 := HM.out.2
          rw [h2]
          refine Nat.lt_of_le_of_lt (Nat.le_of_eq (congrArg (s.size - ·) h1)) ?_
          omega
      | false =>
        rw [hbl] at hb
        have HY := hidP (wN_no (l := s.data.toList.drop (k + 1)) hbl)
        clear hbl
        have HB := hidP hb
        clear hb
        go_wp2_with fail
        go_region_held3 (fun w' => w'.cell? ⟨p, 0, none⟩ = some (.string s) ∧ w'.cell? ⟨p, 1, none⟩ = some (.int .i64 (k : Int))) (with_reducible exact HC.out) (first | (go_at_call 111; refine Calls.mono (HB.out _) ?_; rintro e u1 ⟨rfl, rfl⟩))
        have HR1 := hidP (HK.out.2.1.gr HG.out)
        clear HC
        generalize wr.drew = u at HG HR1 ⊢
        obtain ⟨d0, d1⟩ := HR1.out.cells
        have hbk2 : (b : Int) ≤ (k : Int) := by omega
        have hks : (k : Int) ≤ (s.size : Int) := by omega
        go_wp2_with fail
        go_region
        go_wp2_with fail
        go_ret2
        have hpos : k = b + wN (s.data.toList.drop b) := by have := HK.out.2.2; rw [HD.out, HY.out] at this; omega
        have HG2 : Gr u u.drew := (Keeps.refl u (fun _ => False)).drew
        refine PrQ.ok ((HK.out.1.gr HG.out).gr HG2) (congrArg (fun z => Except.ok (_, (z, g))) hpos.symm) ?_ (HR1.out.gr HG2)
        exact congrArg (fun z => Value.tuple #[.string z, .int .i64 (b : Int)]) (word_ext hpos)
    · obtain rfl : k = s.size := by omega
      obtain ⟨d0, d1⟩ := HK.out.2.1.cells
      clear HC
      have hbk2 : (b : Int) ≤ (s.size : Int) := by omega
      go_wp2_with fail
      go_region
      go_wp2_with fail
      go_region
      go_wp2_with fail
      go_ret2
      have hpos : s.size = b + wN (s.data.toList.drop b) := by have := HK.out.2.2; rw [drop_end] at this; exact this
      have HG2 : Gr wr wr.drew.drew := (Keeps.refl wr (fun _ => False)).drew.drew
      refine PrQ.ok (HK.out.1.gr HG2) (congrArg (fun z => Except.ok (_, (z, g))) hpos.symm) ?_ (HK.out.2.1.gr HG2)
      exact congrArg (fun z => Value.tuple #[.string z, .int .i64 (b : Int)]) (word_ext hpos)
end Go.Proofs.YtkodgneneiledaaGreatDoor.Kit
