import Derived.Test.YtkodgneneiledaaGreatDoorUB
import Derived.Lib.Bytealg
set_option maxRecDepth 100000
set_option maxHeartbeats 4000000
namespace Go.Proofs.YtkodgneneiledaaGreatDoor.Kit
open Go.RowKit Go.Shelf Go.Deep
set_option linter.unusedVariables false
def stuckV (o : Nat) : Value := .iface 85 (.int .i64 (o : Int))
def PrQ {α : Type} (W : World) (p : Nat) (s : ByteArray) (no : Value) (g : List Nat) (r : Except Nat (α × Ps)) (V : α → Value → Prop) (e : Ending) (w' : World) : Prop :=
  KpR W w' p ∧
  match r with
  | .ok (x, a', g') => g' = g ∧ ∃ v, e = .returned v ∧ V x v ∧ TAt w' p s a' no
  | .error o => e = .panicked [{ v := stuckV o, recovered := false }]
def PrC {α : Type} (p : Nat) (s : ByteArray) (F : Nat) (args : Array Value) (r : Pr α) (V : α → Value → Prop) : Prop :=
  ∀ no W a g, TAt W p s a no → Calls Tryz.prog F args W (PrQ W p s no g (r (a, g)) V)
theorem PrQ.ok {α : Type} {W w' : World} {p : Nat} {s : ByteArray} {no : Value} {g : List Nat} {r : Except Nat (α × Ps)} {V : α → Value → Prop} {x : α} {a : Nat} {v : Value} (hk : KpR W w' p) (hr : r = .ok (x, (a, g))) (hv : V x v) (hR : TAt w' p s a no) : PrQ W p s no g r V (.returned v) w' := ⟨hk, by rw [hr]; exact ⟨rfl, v, rfl, hv, hR⟩⟩
theorem PrQ.err {α : Type} {W w' : World} {p : Nat} {s : ByteArray} {no : Value} {g : List Nat} {r : Except Nat (α × Ps)} {V : α → Value → Prop} {o : Nat} (hk : KpR W w' p) (hr : r = .error o) : PrQ W p s no g r V (.panicked [{ v := stuckV o, recovered := false }]) w' := ⟨hk, by rw [hr]⟩
def bQ : Bool → Value → Prop := fun b v => v = .bool b
def nQ {α : Type} : α → Value → Prop := fun _ v => v = .tuple #[]
theorem takes_yes {T : List UInt8} {c : UInt8} {a : Nat} (g : List Nat) (h : (sk (T.drop a)).headD 0 = c) : takesP T c (a, g) = .ok (true, (a + skN (T.drop a) + 1, g)) := (Pr.bind_ok rfl).trans (if_pos h)
theorem takes_no {T : List UInt8} {c : UInt8} {a : Nat} (g : List Nat) (h : (sk (T.drop a)).headD 0 ≠ c) : takesP T c (a, g) = .ok (false, (a + skN (T.drop a), g)) := (Pr.bind_ok rfl).trans (if_neg h)
theorem head_lt {s : ByteArray} {c : UInt8} {a : Nat} (hc : c ≠ 0) (ha : a ≤ s.size) (h : (sk (s.data.toList.drop a)).headD 0 = c) : a + skN (s.data.toList.drop a) + 1 ≤ s.size := by
  have h1 := skN_le s ha
  have h2 := drop_sk s.data.toList a
  refine Nat.lt_of_le_of_ne h1 fun e => ?_
  rw [e, drop_end] at h2
  rw [← h2] at h
  exact hc h.symm
theorem takes_any (p : Nat) (s : ByteArray) (c : UInt8) (hc : c ≠ 0) : PrC p s 52 #[.pointer (some ⟨p, 0, none⟩), .int .u8 (c.toNat : Int)] (takesP s.data.toList c) bQ := by
  intro no W a g hR
  have HP := hidP (peek_any p s no W a hR)
  have HL := hidP hR.len
  have HA := hidP hR.pos
  clear hR
  by_cases h : (sk (s.data.toList.drop a)).headD 0 = c
  · have HE := hidP (takes_yes g h)
    have HT := hidP (head_lt hc HA.out h)
    rw [h] at HP
    clear h
    rw [HE.out]
    have hl : a + skN (s.data.toList.drop a) ≤ 65536 := by have := HT.out; have := HL.out; omega
    generalize a + skN (s.data.toList.drop a) = b at HP HT hl ⊢
    have hsk : IntKind.i64.wrap ((b : Int) + 1) = ((b + 1 : Nat) : Int) := by rw [IntKind.wrap_i64]; omega
    generalize c.toNat = cn at HP ⊢
    go_enter Tryz.func52, Tryz.ntmps52
    go_wp2_with (go_at_call 50; refine Calls.mono HP.out ?_; rintro e u ⟨rfl, hk, ht⟩; have d0 := ht.cells.1; have d1 := ht.cells.2; have z1 := ht.frz; have HK := hidP hk; have HR := hidP ht; clear hk ht)
    go_ret
    exact PrQ.ok (HK.out.put _) rfl rfl (HR.out.set HT.out)
  have HE := hidP (takes_no g h)
  rw [HE.out]
  have hne : (((((sk (s.data.toList.drop a)).headD 0).toNat : Int)) == (c.toNat : Int)) = false := beq_eq_false_iff_ne.2 fun e => h (UInt8.toNat_inj.1 (by omega))
  clear h
  generalize ((sk (s.data.toList.drop a)).headD 0).toNat = x at HP hne
  generalize a + skN (s.data.toList.drop a) = b at HP ⊢
  generalize c.toNat = cn at hne ⊢
  go_enter Tryz.func52, Tryz.ntmps52
  go_wp2_with (go_at_call 50; refine Calls.mono HP.out ?_; rintro e u ⟨rfl, hk, ht⟩; have d0 := ht.cells.1; have d1 := ht.cells.2; have z1 := ht.frz; have HK := hidP hk; have HR := hidP ht; clear hk ht)
  go_ret
  exact PrQ.ok HK.out rfl rfl HR.out
theorem must_yes {T : List UInt8} {c : UInt8} {a : Nat} {s : Ps} {g : List Nat} (h : takesP T c (a, g) = .ok (true, s)) : mustP T c (a, g) = .ok ((), s) := (Pr.bind_ok h).trans (if_pos rfl)
theorem must_no {T : List UInt8} {c : UInt8} {a : Nat} {s : Ps} {g : List Nat} (h : takesP T c (a, g) = .ok (false, s)) : mustP T c (a, g) = .error s.1 := (Pr.bind_ok h).trans (if_neg (by decide))
theorem must_any (p : Nat) (s : ByteArray) (c : UInt8) (hc : c ≠ 0) : PrC p s 91 #[.pointer (some ⟨p, 0, none⟩), .int .u8 (c.toNat : Int)] (mustP s.data.toList c) nQ := by
  intro no W a g hR
  have ht := takes_any p s c hc no W a g hR
  clear hR
  by_cases h : (sk (s.data.toList.drop a)).headD 0 = c
  · rw [takes_yes g h] at ht
    have HE := hidP (must_yes (takes_yes g h))
    have HT := hidP ht
    clear ht h
    rw [HE.out]
    go_enter Tryz.func91, Tryz.ntmps91
    go_wp2_with (go_at_call 52; refine Calls.mono HT.out ?_; rintro e u ⟨hk, _, v, rfl, rfl, ht⟩; have d0 := ht.cells.1; have d1 := ht.cells.2; have z1 := ht.frz; have HK := hidP hk; have HR := hidP ht; clear hk ht)
    go_end0
    exact PrQ.ok HK.out rfl rfl HR.out
  rw [takes_no g h] at ht
  have HE := hidP (must_no (takes_no g h))
  have HT := hidP ht
  clear ht h
  rw [HE.out]
  generalize a + skN (s.data.toList.drop a) = b at HT ⊢
  go_enter Tryz.func91, Tryz.ntmps91
  go_wp2_with (go_at_call 52; refine Calls.mono HT.out ?_; rintro e u ⟨hk, _, v, rfl, rfl, ht⟩; have d0 := ht.cells.1; have d1 := ht.cells.2; have z1 := ht.frz; have HK := hidP hk; have HR := hidP ht; clear hk ht)
  exact ⟨rfl, PrQ.err HK.out rfl⟩
theorem end_any (p : Nat) (s : ByteArray) : PrC p s 49 #[.pointer (some ⟨p, 0, none⟩)] (endP s.data.toList) nQ := by
  intro no W a g hR
  have HP := hidP (peek_any p s no W a hR)
  clear hR
  have hsz : s.data.toList.length = s.size := by simp
  by_cases h : a + skN (s.data.toList.drop a) < s.size
  · have HE : Hid (endP s.data.toList (a, g) = .error (a + skN (s.data.toList.drop a))) := (Pr.bind_ok rfl).trans (if_pos (by rw [hsz]; exact h))
    rw [HE.out]
    clear hsz HE
    generalize ((sk (s.data.toList.drop a)).headD 0).toNat = x at HP
    generalize a + skN (s.data.toList.drop a) = b at HP h ⊢
    go_enter Tryz.func49, Tryz.ntmps49
    go_wp2_with (go_at_call 50; refine Calls.mono HP.out ?_; rintro e u ⟨rfl, hk, ht⟩; have d0 := ht.cells.1; have d1 := ht.cells.2; have z1 := ht.frz; have HK := hidP hk; have HR := hidP ht; clear hk ht)
    go_region
    go_wp2_with fail
    exact ⟨rfl, PrQ.err (HK.out.gr (Keeps.refl u (fun _ => False)).drew) rfl⟩
  have HE : Hid (endP s.data.toList (a, g) = .ok ((), (a + skN (s.data.toList.drop a), g))) := (Pr.bind_ok rfl).trans (if_neg (by rw [hsz]; exact h))
  rw [HE.out]
  clear hsz HE
  generalize ((sk (s.data.toList.drop a)).headD 0).toNat = x at HP
  generalize a + skN (s.data.toList.drop a) = b at HP h ⊢
  go_enter Tryz.func49, Tryz.ntmps49
  go_wp2_with (go_at_call 50; refine Calls.mono HP.out ?_; rintro e u ⟨rfl, hk, ht⟩; have d0 := ht.cells.1; have d1 := ht.cells.2; have z1 := ht.frz; have HK := hidP hk; have HR := hidP ht; clear hk ht)
  go_region
  go_wp2_with fail
  go_end0
  exact PrQ.ok (HK.out.gr (Keeps.refl u (fun _ => False)).drew) rfl rfl (HR.out.gr (Keeps.refl u (fun _ => False)).drew)
def wN (l : List UInt8) : Nat := (wordsB l).length
theorem wN_yes {c : UInt8} {l : List UInt8} (h : wordB c.toNat = true) : wN (c :: l) = wN l + 1 := by
  unfold wN wordsB
  rw [List.takeWhile_cons_of_pos (p := fun b : UInt8 => wordB b.toNat) h]
  rfl
theorem wN_no {c : UInt8} {l : List UInt8} (h : wordB c.toNat = false) : wN (c :: l) = 0 := by
  unfold wN wordsB
  rw [List.takeWhile_cons_of_neg (by simp [h])]
  rfl
theorem wN_le (s : ByteArray) {a : Nat} (h : a ≤ s.size) : a + wN (s.data.toList.drop a) ≤ s.size := by
  have h1 : wN (s.data.toList.drop a) ≤ (s.data.toList.drop a).length := (List.takeWhile_prefix _).length_le
  rw [List.length_drop] at h1
  have h2 : s.data.toList.length = s.size := by simp
  omega
theorem word_ext {s : ByteArray} {b k : Nat} (h : k = b + wN (s.data.toList.drop b)) : s.extract b k = ⟨(wordsB (s.data.toList.drop b)).toArray⟩ := by
  have h1 : wordsB (s.data.toList.drop b) = (s.data.toList.drop b).take (wN (s.data.toList.drop b)) := List.prefix_iff_eq_take.1 (List.takeWhile_prefix _)
  apply ByteArray.ext
  rw [ByteArray.data_extract]
  apply Array.toList_inj.1
  rw [Array.toList_extract, h1, h]
  simp [List.extract_eq_take_drop]
def wQ : ByteArray × Nat → Value → Prop := fun x v => v = .tuple #[.string x.1, .int .i64 (x.2 : Int)]
theorem word_any (p : Nat) (s : ByteArray) : PrC p s 86 #[.pointer (some ⟨p, 0, none⟩)] (wordP s.data.toList) wQ := by
  intro no W a g hR
  have HP := hidP (peek_any p s no W a hR)
  have hsz := hR.len
  have HA := hidP (skN_le s hR.pos)
  clear hR
  have HE : Hid (wordP s.data.toList (a, g) = .ok ((⟨(wordsB (s.data.toList.drop (a + skN (s.data.toList.drop a)))).toArray⟩, a + skN (s.data.toList.drop a)), (a + skN (s.data.toList.drop a) + wN (s.data.toList.drop (a + skN (s.data.toList.drop a))), g))) := by
    show _ = _
    exact rfl
  rw [HE.out]
  clear HE
  generalize ((sk (s.data.toList.drop a)).headD 0).toNat = x at HP
  generalize a + skN (s.data.toList.drop a) = b at HP HA ⊢
  go_enter Tryz.func86, Tryz.ntmps86
  go_wp2_with (go_at_call 50; refine Calls.mono HP.out ?_; rintro e u ⟨rfl, hk, ht⟩; have d0 := ht.cells.1; have d1 := ht.cells.2; have z1 := ht.frz; have HK := hidP hk; have HR := hidP ht; clear hk ht)
  clear d0 d1 z1 HP
  go_loopw [] (fun wr => ∃ k : Nat, b ≤ k ∧ k ≤ s.size ∧ Hid (KpR W wr p ∧ TAt wr p s k no ∧ k + wN (s.data.toList.drop k) = b + wN (s.data.toList.drop b))) (fun wr => s.size - atOf wr p)
  case atStart => exact ⟨b, by omega, HA.out, HK.out, HR.out, rfl⟩
  case round =>
    clear HK HR
    obtain ⟨k, hbk, hk, HK⟩ := hrel
    have hsk : IntKind.i64.wrap ((k : Int) + 1) = ((k + 1 : Nat) : Int) := by rw [IntKind.wrap_i64]; omega
    obtain ⟨c0, c1⟩ := HK.out.2.1.cells
    have HC : Hid (wr.drew.cell? ⟨p, 0, none⟩ = some (.string s) ∧ wr.drew.cell? ⟨p, 1, none⟩ = some (.int .i64 (k : Int))) := ⟨c0, c1⟩
    have HG : Hid (Gr wr wr.drew) := (Keeps.refl wr (fun _ => False)).drew
    clear c0 c1
    by_cases hlt : k < s.size
    · have hb := fun w => isWordByte_any (s[k]'hlt).toNat w
      have HD := hidP (drop_at hlt)
      cases hbl : wordB (s[k]'hlt).toNat with
      | true =>
        rw [hbl] at hb
        have HY := hidP (wN_yes (l := s.data.toList.drop (k + 1)) hbl)
        clear hbl
        have HB := hidP hb
        clear hb
        go_wp2_with fail
        go_region_held3 (fun w' => w'.cell? ⟨p, 0, none⟩ = some (.string s) ∧ w'.cell? ⟨p, 1, none⟩ = some (.int .i64 (k : Int))) (with_reducible exact HC.out) (first | (go_at_call 111; refine Calls.mono (HB.out _) ?_; rintro e u1 ⟨rfl, rfl⟩))
        have HR1 := hidP (HK.out.2.1.gr HG.out)
        clear HC
        generalize wr.drew = u at HG HR1 ⊢
        obtain ⟨d0, d1⟩ := HR1.out.cells
        have z1 := HR1.out.frz
        have HK2 : Hid (KpR W (u.setCell ⟨p, 1, none⟩ (.int .i64 ((k + 1 : Nat) : Int))) p ∧ TAt (u.setCell ⟨p, 1, none⟩ (.int .i64 ((k + 1 : Nat) : Int))) p s (k + 1) no ∧ (k + 1) + wN (s.data.toList.drop (k + 1)) = b + wN (s.data.toList.drop b)) := by
          refine ⟨(HK.out.1.gr HG.out).put _, HR1.out.set (by omega), ?_⟩
          have := HK.out.2.2; rw [HD.out, HY.out] at this; omega
        have HM : Hid (atOf (u.setCell ⟨p, 1, none⟩ (.int .i64 ((k + 1 : Nat) : Int))) p = k + 1 ∧ atOf wr p = k) := ⟨HK2.out.2.1.at, HK.out.2.1.at⟩
        go_wp2_with fail
        go_roundw
        case rel => exact ⟨k + 1, by omega, by omega, HK2⟩
        case measure =>
          have h1 := HM.out.1
          have h2 := HM.out.2
          rw [h2]
          refine Nat.lt_of_le_of_lt (Nat.le_of_eq (congrArg (s.size - ·) h1)) ?_
          omega
      | false =>
        rw [hbl] at hb
        have HY := hidP (wN_no (l := s.data.toList.drop (k + 1)) hbl)
        clear hbl
        have HB := hidP hb
        clear hb
        go_wp2_with fail
        go_region_held3 (fun w' => w'.cell? ⟨p, 0, none⟩ = some (.string s) ∧ w'.cell? ⟨p, 1, none⟩ = some (.int .i64 (k : Int))) (with_reducible exact HC.out) (first | (go_at_call 111; refine Calls.mono (HB.out _) ?_; rintro e u1 ⟨rfl, rfl⟩))
        have HR1 := hidP (HK.out.2.1.gr HG.out)
        clear HC
        generalize wr.drew = u at HG HR1 ⊢
        obtain ⟨d0, d1⟩ := HR1.out.cells
        have hbk2 : (b : Int) ≤ (k : Int) := by omega
        have hks : (k : Int) ≤ (s.size : Int) := by omega
        go_wp2_with fail
        go_region
        go_wp2_with fail
        go_ret2
        have hpos : k = b + wN (s.data.toList.drop b) := by have := HK.out.2.2; rw [HD.out, HY.out] at this; omega
        have HG2 : Gr u u.drew := (Keeps.refl u (fun _ => False)).drew
        refine PrQ.ok ((HK.out.1.gr HG.out).gr HG2) (congrArg (fun z => Except.ok (_, (z, g))) hpos.symm) ?_ (HR1.out.gr HG2)
        exact congrArg (fun z => Value.tuple #[.string z, .int .i64 (b : Int)]) (word_ext hpos)
    obtain rfl : k = s.size := by omega
    obtain ⟨d0, d1⟩ := HK.out.2.1.cells
    clear HC
    have hbk2 : (b : Int) ≤ (s.size : Int) := by omega
    go_wp2_with fail
    go_region
    go_wp2_with fail
    go_region
    go_wp2_with fail
    go_ret2
    have hpos : s.size = b + wN (s.data.toList.drop b) := by have := HK.out.2.2; rw [drop_end] at this; exact this
    have HG2 : Gr wr wr.drew.drew := (Keeps.refl wr (fun _ => False)).drew.drew
    refine PrQ.ok (HK.out.1.gr HG2) (congrArg (fun z => Except.ok (_, (z, g))) hpos.symm) ?_ (HK.out.2.1.gr HG2)
    exact congrArg (fun z => Value.tuple #[.string z, .int .i64 (b : Int)]) (word_ext hpos)
theorem next_ok {s : ByteArray} {a : Nat} (g : List Nat) (h : a < s.size) : nextP s.data.toList (a, g) = .ok (s[a]'h, (a + 1, g)) := by
  have e : s.data.toList[a]? = some (s[a]'h) := by rw [Array.getElem?_toList]; exact Array.getElem?_eq_getElem h
  unfold nextP; rw [e]
theorem next_end {s : ByteArray} (g : List Nat) : nextP s.data.toList (s.size, g) = .error s.size := by
  have e : s.data.toList[s.size]? = none := List.getElem?_eq_none (by simp)
  unfold nextP; rw [e]
def uQ : UInt8 → Value → Prop := fun c v => v = .int .u8 (c.toNat : Int)
theorem next_any (p : Nat) (s : ByteArray) : PrC p s 108 #[.pointer (some ⟨p, 0, none⟩)] (nextP s.data.toList) uQ := by
  intro no W a g hR
  have hl := hR.len
  have ha := hR.pos
  have HR := hidP hR
  obtain ⟨d0, d1⟩ := hR.cells
  clear hR
  by_cases h : a < s.size
  · rw [next_ok g h]
    have hne : ((a : Int) == (s.size : Int)) = false := beq_eq_false_iff_ne.2 (by omega)
    have hsk : IntKind.i64.wrap ((a : Int) + 1) = ((a + 1 : Nat) : Int) := by rw [IntKind.wrap_i64]; omega
    have hsb : IntKind.i64.wrap (((a + 1 : Nat) : Int) - 1) = (a : Int) := by rw [IntKind.wrap_i64]; omega
    go_enter Tryz.func108, Tryz.ntmps108
    go_wp2_with fail
    go_region
    have HG : Hid (Gr W W.drew) := (Keeps.refl W (fun _ => False)).drew
    have HR1 := hidP (HR.out.gr HG.out)
    clear d0 d1
    generalize W.drew = u at HG HR1 ⊢
    obtain ⟨d0, d1⟩ := HR1.out.cells
    have z1 := HR1.out.frz
    have HR2 : Hid (TAt (u.setCell ⟨p, 1, none⟩ (.int .i64 ((a : Int) + 1))) p s (a + 1) no) := HR1.out.set (a' := a + 1) (by omega)
    have HK : Hid (KpR W (u.setCell ⟨p, 1, none⟩ (.int .i64 ((a : Int) + 1))) p) := KpR.put (KpR.gr (Keeps.refl W (fun z => z = p)) HG.out) _
    go_wp2_with fail
    clear d0 d1 z1
    generalize u.setCell ⟨p, 1, none⟩ (.int .i64 ((a : Int) + 1)) = v at HR2 HK ⊢
    obtain ⟨d0, d1⟩ := HR2.out.cells
    go_region
    go_wp2_with fail
    go_ret
    exact PrQ.ok (HK.out.gr (Keeps.refl v (fun _ => False)).drew) rfl rfl (HR2.out.gr (Keeps.refl v (fun _ => False)).drew)
  obtain rfl : a = s.size := by omega
  rw [next_end g]
  go_enter Tryz.func108, Tryz.ntmps108
  go_wp2_with fail
  go_region
  go_wp2_with fail
  exact ⟨rfl, PrQ.err (KpR.gr (Keeps.refl W (fun z => z = p)) (Keeps.refl W (fun _ => False)).drew) rfl⟩
end Go.Proofs.YtkodgneneiledaaGreatDoor.Kit
namespace Go.Proofs.YtkodgneneiledaaGreatDoor.Kit
open Go.RowKit Go.Shelf Go.Deep
set_option linter.unusedVariables false
attribute [local go_sem] Lib.run_indexByteString
def hexL : List UInt8 := [48, 49, 50, 51, 52, 53, 54, 55, 56, 57, 97, 98, 99, 100, 101, 102]
theorem index_any (c : UInt8) (w : World) : Calls Tryz.prog 123 #[.string ⟨hexL.toArray⟩, .int .u8 (c.toNat : Int)] w fun e w' => e = .returned (.int .i64 (Lib.indexByte hexL c)) ∧ w' = w := by
  have r92 : (callFunc 134 #[.string ⟨hexL.toArray⟩, .int .u8 (c.toNat : Int)]).run Tryz.prog w = .ok (.value (.int .i64 (Lib.indexByte hexL c))) w := by
    rw [run_callFunc_extern Tryz.func134 (by kernel_rfl) (by kernel_rfl) (by kernel_rfl) (e := Extern.BytealgIndexByte.indexByte) (by kernel_rfl), Lib.run_indexByteString]
    rw [show ((c.toNat : Int)).toNat.toUInt8 = c from by simp]
    rfl
  go_enter Tryz.func123, Tryz.ntmps123
  generalize Lib.indexByte hexL c = z at r92 ⊢
  go_wp2
  go_ret
  exact ⟨rfl, rfl⟩
theorem index_hex (c : UInt8) : Lib.indexByte hexL c = match hexV c with | none => -1 | some n => (n : Int) := by
  have h : ∀ n : Fin 256, Lib.indexByte hexL (UInt8.ofNat n.val) = match hexV (UInt8.ofNat n.val) with | none => -1 | some n => (n : Int) := by decide +kernel
  have := h ⟨c.toNat, c.toNat_lt⟩
  rwa [show UInt8.ofNat c.toNat = c from by simp] at this
theorem hex_lt {c : UInt8} {n : Nat} (h : hexV c = some n) : n < 16 := by
  unfold hexV at h
  split at h
  · cases h; omega
  split at h
  · cases h; omega
  cases h
def hQ : Nat → Value → Prop := fun n v => v = .int .u8 (n : Int)
theorem digit_any (p : Nat) (s : ByteArray) (o : Nat) : PrC p s 121 #[.pointer (some ⟨p, 0, none⟩), .int .i64 (o : Int)] (digitP s.data.toList o) hQ := by
  intro no W a g hR
  have HN := hidP (next_any p s no W a g hR)
  clear hR
  unfold digitP
  cases e : nextP s.data.toList (a, g) with
  | error q =>
    rw [e] at HN
    rw [Pr.bind_err e]
    clear e
    go_enter Tryz.func121, Tryz.ntmps121
    go_wp2_with (go_at_call 108; refine Calls.mono HN.out ?_; rintro e u ⟨hk, rfl⟩; have HK := hidP hk; clear hk)
    exact ⟨rfl, PrQ.err HK.out rfl⟩
  | ok x =>
    obtain ⟨c, b, g'⟩ := x
    rw [e] at HN
    rw [Pr.bind_ok e]
    clear e
    have HI := hidP (fun w => index_any c w)
    have HX := hidP (index_hex c)
    cases hv : hexV c with
    | none =>
      rw [hv] at HX
      rw [HX.out] at HI
      clear HX
      go_enter Tryz.func121, Tryz.ntmps121
      go_wp2_with (first | (go_at_call 108; refine Calls.mono HN.out ?_; rintro e u ⟨hk, hg, v, rfl, rfl, ht⟩; have HK := hidP hk; have HR := hidP ht; have HGG := hidP hg; clear hk ht hg) | (go_at_call 123; refine Calls.mono (HI.out _) ?_; rintro e u2 ⟨rfl, rfl⟩))
      exact ⟨rfl, PrQ.err HK.out (by simp)⟩
    | some n =>
      have hn := hex_lt hv
      rw [hv] at HX
      rw [HX.out] at HI
      clear HX
      have hw : IntKind.u8.wrap (n : Int) = (n : Int) := by rw [IntKind.wrap_u8]; omega
      go_enter Tryz.func121, Tryz.ntmps121
      go_wp2_with (first | (go_at_call 108; refine Calls.mono HN.out ?_; rintro e u ⟨hk, hg, v, rfl, rfl, ht⟩; have HK := hidP hk; have HR := hidP ht; have HGG := hidP hg; clear hk ht hg) | (go_at_call 123; refine Calls.mono (HI.out _) ?_; rintro e u2 ⟨rfl, rfl⟩))
      go_ret
      exact PrQ.ok HK.out (by simp [HGG.out]) rfl HR.out
end Go.Proofs.YtkodgneneiledaaGreatDoor.Kit
namespace Go.Proofs.YtkodgneneiledaaGreatDoor.Kit
open Go.RowKit Go.Shelf Go.Deep
set_option linter.unusedVariables false
theorem digit_lt {T : List UInt8} {o n : Nat} {z z' : Ps} (h : digitP T o z = .ok (n, z')) : n < 16 := by
  unfold digitP at h
  cases e : nextP T z with
  | error q => rw [Pr.bind_err e] at h; cases h
  | ok x =>
    obtain ⟨c, y⟩ := x
    rw [Pr.bind_ok e] at h
    cases hv : hexV c with
    | none => rw [hv] at h; cases h
    | some m => rw [hv] at h; cases h; exact hex_lt hv
theorem bits_or : ∀ a b : Fin 16, bits BinOp.or IntKind.u8 ((a.val : Int) * 16) (b.val : Int) = ((UInt8.ofNat (16 * a.val + b.val)).toNat : Int) := by decide +kernel
theorem escape_any (p : Nat) (s : ByteArray) (o : Nat) : PrC p s 109 #[.pointer (some ⟨p, 0, none⟩), .int .i64 (o : Int)] (escP s.data.toList o) uQ := by
  intro no W a g hR
  have HN := hidP (next_any p s no W a g hR)
  clear hR
  unfold escP
  cases e : nextP s.data.toList (a, g) with
  | error q =>
    rw [e] at HN
    rw [Pr.bind_err e]
    clear e
    go_enter Tryz.func109, Tryz.ntmps109
    go_wp2_with (go_at_call 108; refine Calls.mono HN.out ?_; rintro e u ⟨hk, rfl⟩; have HK := hidP hk; clear hk)
    exact ⟨rfl, PrQ.err HK.out rfl⟩
  | ok x =>
    obtain ⟨c, b, g'⟩ := x
    rw [e] at HN
    rw [Pr.bind_ok e]
    clear e
    have e34 : ((c.toNat : Int) == 34) = decide (c = 34) := by
      rw [Bool.eq_iff_iff]; simp only [beq_iff_eq, decide_eq_true_eq]
      exact ⟨fun h => UInt8.toNat_inj.1 (by show c.toNat = 34; omega), fun h => by rw [h]; rfl⟩
    have e92 : ((c.toNat : Int) == 92) = decide (c = 92) := by
      rw [Bool.eq_iff_iff]; simp only [beq_iff_eq, decide_eq_true_eq]
      exact ⟨fun h => UInt8.toNat_inj.1 (by show c.toNat = 92; omega), fun h => by rw [h]; rfl⟩
    have e120 : ((c.toNat : Int) == 120) = decide (c = 120) := by
      rw [Bool.eq_iff_iff]; simp only [beq_iff_eq, decide_eq_true_eq]
      exact ⟨fun h => UInt8.toNat_inj.1 (by show c.toNat = 120; omega), fun h => by rw [h]; rfl⟩
    by_cases h1 : c = 34 ∨ c = 92
    · rw [if_pos h1]
      by_cases h2 : c = 34
      · rw [decide_eq_true h2] at e34
        clear e92 e120 h1 h2
        go_enter Tryz.func109, Tryz.ntmps109
        go_wp2_with (first | (go_at_call 108; refine Calls.mono HN.out ?_; rintro e u ⟨hk, hg, v, rfl, rfl, ht⟩; have HK := hidP hk; have HR := hidP ht; have HGG := hidP hg; clear hk ht hg))
        go_ret
        exact PrQ.ok HK.out (by rw [HGG.out]; rfl) rfl HR.out
      rw [decide_eq_false h2] at e34
      rw [decide_eq_true (h1.resolve_left h2)] at e92
      clear e120 h1 h2
      go_enter Tryz.func109, Tryz.ntmps109
      go_wp2_with (first | (go_at_call 108; refine Calls.mono HN.out ?_; rintro e u ⟨hk, hg, v, rfl, rfl, ht⟩; have HK := hidP hk; have HR := hidP ht; have HGG := hidP hg; clear hk ht hg))
      go_ret
      exact PrQ.ok HK.out (by rw [HGG.out]; rfl) rfl HR.out
    rw [if_neg h1]
    rw [decide_eq_false (fun h => h1 (.inl h))] at e34
    rw [decide_eq_false (fun h => h1 (.inr h))] at e92
    clear h1
    by_cases h3 : c = 120
    · rw [if_pos h3]
      rw [decide_eq_true h3] at e120
      clear h3
      have HD := hidP (digit_any p s o)
      cases e1 : digitP s.data.toList o (b, g') with
      | error q =>
        rw [Pr.bind_err e1]
        have HE := hidP e1
        clear e1
        go_enter Tryz.func109, Tryz.ntmps109
        go_wp2_with (first | (go_at_call 108; refine Calls.mono HN.out ?_; rintro e u ⟨hk, hg, v, rfl, rfl, ht⟩; have HK := hidP hk; have HR := hidP ht; have HGG := hidP hg; clear hk ht hg) | (go_at_call 121; refine Calls.mono (HD.out no _ b g' HR.out) ?_; rw [HE.out]; rintro e u2 ⟨hk, rfl⟩; have HK2 := hidP hk; clear hk))
        exact ⟨rfl, PrQ.err (HK.out.trans HK2.out fun _ _ h => h) rfl⟩
      | ok x =>
        obtain ⟨n, b2, g2⟩ := x
        rw [Pr.bind_ok e1]
        have HE := hidP e1
        have hn := digit_lt e1
        clear e1
        cases e2 : digitP s.data.toList o (b2, g2) with
        | error q =>
          rw [Pr.bind_err e2]
          have HF := hidP e2
          clear e2
          go_enter Tryz.func109, Tryz.ntmps109
          go_wp2_with (first | (go_at_call 108; refine Calls.mono HN.out ?_; rintro e u ⟨hk, hg, v, rfl, rfl, ht⟩; have HK := hidP hk; have HR := hidP ht; have HGG := hidP hg; clear hk ht hg) | (go_at_call 121; refine Calls.mono (HD.out no _ b2 g2 HR2.out) ?_; rw [HF.out]; rintro e u3 ⟨hk, rfl⟩; have HK3 := hidP hk; clear hk) | (go_at_call 121; refine Calls.mono (HD.out no _ b g' HR.out) ?_; rw [HE.out]; rintro e u2 ⟨hk, hg, v, rfl, rfl, ht⟩; have HK2 := hidP hk; have HR2 := hidP ht; have HG2 := hidP hg; clear hk ht hg))
          all_goals exact ⟨rfl, PrQ.err ((HK.out.trans HK2.out fun _ _ h => h).trans HK3.out fun _ _ h => h) rfl⟩
        | ok x =>
          obtain ⟨m, b3, g3⟩ := x
          rw [Pr.bind_ok e2]
          have HF := hidP e2
          have hm := digit_lt e2
          clear e2
          go_enter Tryz.func109, Tryz.ntmps109
          go_wp2_with (first | (go_at_call 108; refine Calls.mono HN.out ?_; rintro e u ⟨hk, hg, v, rfl, rfl, ht⟩; have HK := hidP hk; have HR := hidP ht; have HGG := hidP hg; clear hk ht hg) | (go_at_call 121; refine Calls.mono (HD.out no _ b2 g2 HR2.out) ?_; rw [HF.out]; rintro e u3 ⟨hk, hg, v, rfl, rfl, ht⟩; have HK3 := hidP hk; have HR3 := hidP ht; have HG3 := hidP hg; clear hk ht hg) | (go_at_call 121; refine Calls.mono (HD.out no _ b g' HR.out) ?_; rw [HE.out]; rintro e u2 ⟨hk, hg, v, rfl, rfl, ht⟩; have HK2 := hidP hk; have HR2 := hidP ht; have HG2 := hidP hg; clear hk ht hg))
          go_ret
          have hb := bits_or ⟨n, hn⟩ ⟨m, hm⟩
          refine PrQ.ok (x := UInt8.ofNat (16 * n + m)) ((HK.out.trans HK2.out fun _ _ h => h).trans HK3.out fun _ _ h => h) (by rw [HG3.out, HG2.out, HGG.out]; rfl) ?_ HR3.out
          exact congrArg (Value.int .u8) hb
    rw [if_neg h3]
    rw [decide_eq_false h3] at e120
    clear h3
    go_enter Tryz.func109, Tryz.ntmps109
    go_wp2_with (first | (go_at_call 108; refine Calls.mono HN.out ?_; rintro e u ⟨hk, hg, v, rfl, rfl, ht⟩; have HK := hidP hk; have HR := hidP ht; have HGG := hidP hg; clear hk ht hg))
    exact ⟨rfl, PrQ.err HK.out rfl⟩
end Go.Proofs.YtkodgneneiledaaGreatDoor.Kit
