import Derived.Test.YtomlndoffoeaiaaViewA
import Derived.Test.YtomlndoffoeaiaaInkG
namespace Go.Proofs.Ytomlndoffoeaiaa.Kit
open Go.RowKit Go.Deep

/-- a watch that may be none -/
def Wat (w : World) (q gq : Option Nat) (rs : List (Int × Int)) : Prop := match q with | none => gq = none ∧ rs = [] | some b => WatchAt w b gq rs
def WatDone (w w' : World) (q gq : Option Nat) (rs' : List (Int × Int)) : Prop :=
  ∃ gq', Wat w' q gq' rs' ∧ Keeps w w' (fun k => q = some k ∨ gq = some k) ∧ (gq' = gq ∨ ∀ g, gq' = some g → w.heap.size ≤ g)
theorem Wat.kept {w w' : World} {q gq : Option Nat} {rs : List (Int × Int)} {S : Nat → Prop} (h : Wat w q gq rs) (hk : Keeps w w' S) (hp : ∀ b, q = some b → ¬ S b) (hg : ∀ g, gq = some g → ¬ S g) : Wat w' q gq rs := by
  cases q with
  | none => exact h
  | some b => exact WatchAt.kept h hk (hp b rfl) hg
theorem Wat.lt {w : World} {q gq : Option Nat} {rs : List (Int × Int)} (h : Wat w q gq rs) : (∀ b, q = some b → b < w.heap.size) ∧ ∀ g, gq = some g → g < w.heap.size := by
  cases q with
  | none => exact ⟨(fun _ h => by cases h), fun g hg => by rw [h.1] at hg; cases hg⟩
  | some b => exact ⟨(fun c hc => by cases hc; exact (WatchAt.lt h).1), (WatchAt.lt h).2⟩
theorem WatDone.refl {w w' : World} {q gq : Option Nat} {rs : List (Int × Int)} (h : Wat w q gq rs) (hk : Keeps w w' (fun _ => False)) : WatDone w w' q gq rs :=
  ⟨gq, h.kept hk (fun _ _ => id) (fun _ _ => id), hk.mono fun _ _ h => h.elim, .inl rfl⟩
theorem WatDone.trans {a b c : World} {q gq gq1 : Option Nat} {rs : List (Int × Int)} (hk : Keeps a b (fun k => q = some k ∨ gq = some k)) (hg : gq1 = gq ∨ ∀ g, gq1 = some g → a.heap.size ≤ g) (h : WatDone b c q gq1 rs) : WatDone a c q gq rs := by
  obtain ⟨g2, i2, k2, b2⟩ := h
  refine ⟨g2, i2, hk.trans k2 ?_, ?_⟩
  · intro j hj e
    rcases e with e | e
    · exact .inl e
    · rcases hg with x | x
      · exact .inr (x ▸ e)
      · have := x j e; omega
  · rcases b2 with e | e
    · subst e; exact hg
    · exact .inr fun g h => Nat.le_trans hk.size (e g h)
theorem WatDone.from {w W w' : World} {q gq : Option Nat} {rs : List (Int × Int)} (hk : Keeps w W (fun _ => False)) (h : WatDone W w' q gq rs) : WatDone w w' q gq rs :=
  WatDone.trans (hk.mono fun _ _ h => h.elim) (.inl rfl) h
theorem WatDone.to {w W w' : World} {q gq : Option Nat} {rs : List (Int × Int)} (h : WatDone w W q gq rs) (hk : Keeps W w' (fun _ => False)) : WatDone w w' q gq rs := by
  obtain ⟨g2, i2, k2, b2⟩ := h
  exact ⟨g2, i2.kept hk (fun _ _ => id) (fun _ _ => id), k2.trans hk (fun _ _ h => h.elim), b2⟩

def tellR (q : Option Nat) (rs : List (Int × Int)) (a b : Int) : List (Int × Int) := if q = none then rs else if a < b then rs ++ [(a, b)] else rs

/-- the places are numbers -/
def PlaceOk (place : Int) (n : Nat) : Prop := 0 ≤ place ∧ place + n ≤ 9223372036854775807

theorem tell_all (ao : Option Addr) (n cap : Nat) (place a b : Int) (q gq : Option Nat) (rs : List (Int × Int)) (w : World) (hI : Wat w q gq rs) (hp0 : 0 ≤ place + a) (hp1 : place + b ≤ 9223372036854775807) (hrs : rs.length ≤ 1000000000000) :
    Calls Try.prog 68 #[viewV ao n cap place q, .int .i64 a, .int .i64 b] w fun e w' => e = .returned (.tuple #[]) ∧ WatDone w w' q gq (tellR q rs (place + a) (place + b)) := by
  cases q with
  | none =>
    refine (tell_none ao n cap place a b w).mono fun e w' h => ⟨h.1, ?_⟩
    simp only [tellR, if_true]
    exact WatDone.refl hI h.2
  | some q =>
    by_cases h : a < b
    · refine (tell_told ao n cap place a b q gq rs w hI h hp0 hp1 hrs).mono fun e w' h' => ⟨h'.1, ?_⟩
      have e : tellR (some q) rs (place + a) (place + b) = rs ++ [(place + a, place + b)] := by simp [tellR]; omega
      rw [e]
      obtain ⟨g', i', k', b'⟩ := h'.2
      exact ⟨g', i', k'.mono (fun j _ h => h.imp (fun e => by rw [e]) id), b'⟩
    · refine (tell_empty ao n cap place a b q w (by omega)).mono fun e w' h' => ⟨h'.1, ?_⟩
      have e : tellR (some q) rs (place + a) (place + b) = rs := by simp [tellR]; omega
      rw [e]
      exact WatDone.refl hI h'.2

theorem box3 {w w1 : World} {a b c : Value} {ty : Nat} {S : Nat → Prop} (hk : Keeps (w.alloc (.cells #[a, b, c] ty)) w1 S) (hS : ¬ S w.heap.size) :
    w1.cell? ⟨w.heap.size, 0, none⟩ = some a ∧ w1.cell? ⟨w.heap.size, 1, none⟩ = some b ∧ w1.cell? ⟨w.heap.size, 2, none⟩ = some c := by
  have h := heap_alloc_new w (.cells #[a, b, c] ty)
  refine ⟨hk.cell' ?_ hS, hk.cell' ?_ hS, hk.cell' ?_ hS⟩
  · rw [cell_of_row _ _ 0 _ _ _ h]; rfl
  · rw [cell_of_row _ _ 1 _ _ _ h]; rfl
  · rw [cell_of_row _ _ 2 _ _ _ h]; rfl

/-- a list as a value: empty without room, or somewhere -/
def SForm (ao : Option Addr) (n cap : Nat) : Prop := n ≤ cap ∧ cap ≤ 9223372036854775807 ∧ (cap = 0 ∨ ∃ b off, ao = some ⟨b, off, none⟩)

/-- what reading m bytes from a on hands out -/
def ReadOk (e : Ending) (ao : Option Addr) (n a m : Nat) : Prop :=
  ∃ ao' cap', e = .returned (.tuple #[.slice ao' m cap', .bool true]) ∧ SForm ao' m cap' ∧ ∀ W l, BytesAt W ao n l → BytesAt W ao' m ((l.drop a).take m)

theorem readOk_some (b off n cap a m k : Nat) (hc : n ≤ cap) (hcap : cap ≤ 9223372036854775807) (h : a + m ≤ n) (hk : k = m) : ReadOk (.returned (.tuple #[.slice (some ⟨b, off + a, none⟩) k (cap - a), .bool true])) (some ⟨b, off, none⟩) n a m := by
  subst hk
  refine ⟨_, _, rfl, ⟨by omega, by omega, .inr ⟨b, off + a, rfl⟩⟩, fun W l hl hm => ?_⟩
  obtain ⟨b', off', e, hc'⟩ := hl (by omega)
  simp only [Option.some.injEq, Addr.mk.injEq, and_true] at e
  obtain ⟨rfl, rfl⟩ := e
  refine ⟨b, off + a, rfl, fun k hk => ?_⟩
  have := hc' (a + k) (by omega)
  rw [← Nat.add_assoc] at this
  rw [this]
  simp [List.getD, hk]
theorem readOk_end (ao : Option Addr) (n a cap : Nat) (hcap : cap ≤ 9223372036854775807) (hs : cap = 0 ∨ ∃ b off, ao = some ⟨b, off, none⟩) : ReadOk (.returned (.tuple #[.slice ao 0 cap, .bool true])) ao n a 0 :=
  ⟨_, _, rfl, ⟨Nat.zero_le _, hcap, hs⟩, fun _ _ _ h => absurd h (by omega)⟩

set_option maxRecDepth 100000 in
set_option maxHeartbeats 1000000 in
theorem read_some (b off n cap : Nat) (place : Int) (q gq : Option Nat) (rs : List (Int × Int)) (a m : Nat) (w : World) (hn : n ≤ 9223372036854775807) (hc : n ≤ cap) (hcap : cap ≤ 9223372036854775807) (h : a + m ≤ n) (hI : Wat w q gq rs) (hpl : PlaceOk place n) (hrs : rs.length ≤ 1000000000000) :
    Calls Try.prog 52 #[viewV (some ⟨b, off, none⟩) n cap place q, .int .i64 a, .int .i64 m] w fun e w' => ReadOk e (some ⟨b, off, none⟩) n a m ∧ WatDone w w' q gq (tellR q rs (place + a) (place + a + m)) := by
  have HI : Hid (Wat w q gq rs) := hI
  have HP : Hid (PlaceOk place n) := hpl
  clear hI hpl
  unfold viewV
  go_enter Try.func52, Try.ntmps52
  go_wp2_with fail
  go_at_call 50
  refine (end_in _ n cap place q a m _ hn (by omega) (by omega) (by omega)).mono ?_
  rintro e w1 ⟨rfl, K1⟩
  obtain ⟨b0, b1, b2⟩ := box3 K1 id
  have HK1 : Hid (Keeps w w1 (fun _ => False)) := ((Keeps.refl w _).alloc _).trans K1 fun _ _ h => h
  have HB : Hid (w.heap.size < w1.heap.size) := Nat.lt_of_lt_of_le (by simp) K1.size
  clear K1
  go_wp2_with fail
  go_at_call 68
  refine (tell_all _ n cap place a (a + m) q gq rs _ (HI.out.kept HK1.out (fun _ _ => id) (fun _ _ => id)) (by have := HP.out.1; omega) (by have := HP.out.2; omega) hrs).mono ?_
  rintro e w2 ⟨rfl, D2⟩
  have b0' : w2.cell? ⟨w.heap.size, 0, none⟩ = some (.slice (some ⟨b, off, none⟩) n cap) := by
    obtain ⟨g2, i2, k2, _⟩ := D2
    refine k2.cell' b0 fun e => ?_
    rcases e with e | e
    · have := HI.out.lt.1 _ e; simp at this
    · have := HI.out.lt.2 _ e; simp at this
  have HD : Hid (WatDone w w2 q gq (tellR q rs (place + a) (place + a + m))) := by
    have := WatDone.from HK1.out D2
    rwa [← Int.add_assoc] at this
  clear D2 b0 b1 b2
  by_cases hca : cap = a
  · obtain rfl : m = 0 := by omega
    go_wp2
    go_ret2
    exact ⟨readOk_end _ n a 0 (by omega) (.inr ⟨b, off, rfl⟩), HD.out⟩
  · go_wp2
    go_ret2
    exact ⟨readOk_some b off n cap a m _ hc hcap h (by omega), HD.out⟩

set_option maxRecDepth 100000 in
set_option maxHeartbeats 1000000 in
theorem read_zero (ao : Option Addr) (place : Int) (q gq : Option Nat) (rs : List (Int × Int)) (w : World) (hI : Wat w q gq rs) (hpl : PlaceOk place 0) (hrs : rs.length ≤ 1000000000000) :
    Calls Try.prog 52 #[viewV ao 0 0 place q, .int .i64 0, .int .i64 0] w fun e w' => ReadOk e ao 0 0 0 ∧ WatDone w w' q gq (tellR q rs place place) := by
  have HI : Hid (Wat w q gq rs) := hI
  have HP : Hid (PlaceOk place 0) := hpl
  clear hI hpl
  unfold viewV
  go_enter Try.func52, Try.ntmps52
  go_wp2_with fail
  go_at_call 50
  refine (end_in _ 0 0 place q 0 0 _ (by omega) (by omega) (by omega) (by omega)).mono ?_
  rintro e w1 ⟨rfl, K1⟩
  obtain ⟨b0, b1, b2⟩ := box3 K1 id
  have HK1 : Hid (Keeps w w1 (fun _ => False)) := ((Keeps.refl w _).alloc _).trans K1 fun _ _ h => h
  clear K1
  go_wp2_with fail
  go_at_call 68
  refine (tell_all _ 0 0 place 0 0 q gq rs _ (HI.out.kept HK1.out (fun _ _ => id) (fun _ _ => id)) (by have := HP.out.1; omega) (by have := HP.out.2; omega) hrs).mono ?_
  rintro e w2 ⟨rfl, D2⟩
  have b0' : w2.cell? ⟨w.heap.size, 0, none⟩ = some (.slice ao 0 0) := by
    obtain ⟨g2, i2, k2, _⟩ := D2
    refine k2.cell' b0 fun e => ?_
    rcases e with e | e
    · have := HI.out.lt.1 _ e; simp at this
    · have := HI.out.lt.2 _ e; simp at this
  have HD : Hid (WatDone w w2 q gq (tellR q rs place place)) := by
    have := WatDone.from HK1.out D2
    show WatDone _ _ _ _ _
    simpa using this
  clear D2 b0 b1 b2
  cases ao with
  | none =>
    go_wp2
    go_ret2
    exact ⟨readOk_end _ 0 0 0 (by omega) (.inl rfl), HD.out⟩
  | some ad =>
    go_wp2
    go_ret2
    exact ⟨readOk_end _ 0 0 0 (by omega) (.inl rfl), HD.out⟩

theorem read_in (ao : Option Addr) (n cap : Nat) (place : Int) (q gq : Option Nat) (rs : List (Int × Int)) (a m : Nat) (w : World) (hs : SForm ao n cap) (h : a + m ≤ n) (hI : Wat w q gq rs) (hpl : PlaceOk place n) (hrs : rs.length ≤ 1000000000000) :
    Calls Try.prog 52 #[viewV ao n cap place q, .int .i64 a, .int .i64 m] w fun e w' => ReadOk e ao n a m ∧ WatDone w w' q gq (tellR q rs (place + a) (place + a + m)) := by
  obtain ⟨h1, h2, h3⟩ := hs
  by_cases h0 : cap = 0
  · obtain rfl : n = 0 := by omega
    obtain rfl : a = 0 := by omega
    obtain rfl : m = 0 := by omega
    subst h0
    simpa using read_zero ao place q gq rs w hI hpl hrs
  · obtain ⟨b, off, rfl⟩ := h3.resolve_left h0
    exact read_some b off n cap place q gq rs a m w (by omega) h1 h2 h hI hpl hrs

set_option maxRecDepth 100000 in
set_option maxHeartbeats 1000000 in
theorem read_out (ao : Option Addr) (n cap : Nat) (place : Int) (q : Option Nat) (a m : Int) (w : World) (h : ¬ (0 ≤ a ∧ 0 ≤ m ∧ a + m ≤ n)) :
    Calls Try.prog 52 #[viewV ao n cap place q, .int .i64 a, .int .i64 m] w fun e w' => e = .returned (.tuple #[.slice none 0 0, .bool false]) ∧ Keeps w w' (fun _ => False) := by
  unfold viewV
  go_enter Try.func52, Try.ntmps52
  go_wp2_with fail
  go_at_call 50
  refine (end_out _ n cap place q a m _ h).mono ?_
  rintro e w1 ⟨⟨x, rfl⟩, K1⟩
  have HK1 : Hid (Keeps w w1 (fun _ => False)) := ((Keeps.refl w _).alloc _).trans K1 fun _ _ h => h
  clear K1
  go_wp2
  go_ret2
  exact ⟨rfl, HK1.out⟩

/-- the number in bytes, the lowest first -/
def leVal (l : List Int) : Int := l.foldr (fun c r => c + 256 * r) 0
theorem leVal_append (a b : List Int) : leVal (a ++ b) = leVal a + 256 ^ a.length * leVal b := by
  induction a with
  | nil => simp [leVal]
  | cons c r ih =>
    have e : leVal (c :: r ++ b) = c + 256 * leVal (r ++ b) := rfl
    have e2 : leVal (c :: r) = c + 256 * leVal r := rfl
    rw [e, ih, e2, List.length_cons, Int.pow_succ, Int.mul_add, Int.add_assoc]
    congr 2
    rw [Int.mul_comm (256 ^ r.length) 256, Int.mul_assoc]
theorem leVal_bd (l : List Int) (h : ∀ c ∈ l, 0 ≤ c ∧ c < 256) : 0 ≤ leVal l ∧ leVal l < 256 ^ l.length := by
  induction l with
  | nil => simp [leVal]
  | cons c r ih =>
    have e2 : leVal (c :: r) = c + 256 * leVal r := rfl
    have h1 := h c (by simp)
    have h2 := ih fun d hd => h d (by simp [hd])
    rw [e2, List.length_cons, Int.pow_succ]
    generalize (256 : Int) ^ r.length = P at *
    omega
theorem pow256_le (k : Nat) (h : k ≤ 8) : (256 : Int) ^ k ≤ 18446744073709551616 := by
  have : k = 0 ∨ k = 1 ∨ k = 2 ∨ k = 3 ∨ k = 4 ∨ k = 5 ∨ k = 6 ∨ k = 7 ∨ k = 8 := by omega
  rcases this with rfl | rfl | rfl | rfl | rfl | rfl | rfl | rfl | rfl <;> decide
theorem or_step (y z : Int) (k : Nat) (hk : k < 8) (hy0 : 0 ≤ y) (hy1 : y < 256 ^ k) (hz0 : 0 ≤ z) (hz1 : z < 256) :
    bits BinOp.or IntKind.u64 y (IntKind.u64.wrap (IntKind.u64.wrap z * 2 ^ (8 * k))) = y + 256 ^ k * z := by
  have hp : (2 : Int) ^ (8 * k) = 256 ^ k := by rw [Int.pow_mul]; rfl
  have hP := pow256_le (k + 1) (by omega)
  have hP0 : (0 : Int) < 256 ^ k := Int.pow_pos (by decide)
  rw [Int.pow_succ] at hP
  have w1 : IntKind.u64.wrap z = z := by simp [IntKind.wrap, IntKind.bits, IntKind.signed]; omega
  have hb : 0 ≤ z * 256 ^ k ∧ z * 256 ^ k < 18446744073709551616 := by
    refine ⟨Int.mul_nonneg hz0 (by omega), ?_⟩
    have : z * 256 ^ k ≤ 255 * 256 ^ k := Int.mul_le_mul_of_nonneg_right (by omega) (by omega)
    omega
  have w2 : IntKind.u64.wrap (z * 256 ^ k) = z * 256 ^ k := by simp [IntKind.wrap, IntKind.bits, IntKind.signed]; omega
  rw [w1, hp, w2]
  obtain ⟨Y, rfl⟩ : ∃ Y : Nat, y = Y := ⟨y.toNat, by omega⟩
  obtain ⟨Z, rfl⟩ : ∃ Z : Nat, z = Z := ⟨z.toNat, by omega⟩
  have e : ((Z : Int) * 256 ^ k) = ((Z * 256 ^ k : Nat) : Int) := by rw [Int.natCast_mul, Int.natCast_pow]; rfl
  have hyn : Y < 256 ^ k := by
    have : ((256 ^ k : Nat) : Int) = (256 : Int) ^ k := by rw [Int.natCast_pow]; rfl
    omega
  rw [e, bits_or_u64_nat Y (Z * 256 ^ k) (by omega) (by omega)]
  have hyn' : Y < 2 ^ (8 * k) := by rw [Nat.pow_mul]; exact hyn
  have := Nat.two_pow_add_eq_or_of_lt hyn' Z
  have e3 : (2 : Nat) ^ (8 * k) = 256 ^ k := by rw [Nat.pow_mul]
  rw [e3] at this
  rw [Nat.or_comm, Nat.mul_comm, ← this, Int.natCast_add, Int.natCast_mul, Int.natCast_pow, Int.add_comm]
  rfl
theorem ret_int {k : IntKind} {a b : Int} (h : a = b) : Ending.returned (.int k a) = .returned (.int k b) := by rw [h]
theorem take_snoc_getD (l : List Int) (k : Nat) (h : k < l.length) : l.take (k + 1) = l.take k ++ [l.getD k 0] := by
  rw [List.take_succ_eq_append_getElem h]; simp [List.getD, List.getElem?_eq_getElem h]

set_option maxHeartbeats 1000000 in
theorem lowest_some (b off m cap : Nat) (l : List Int) (w : World) (hm : m ≤ 8) (hl : l.length = m) (hb : ∀ c ∈ l, 0 ≤ c ∧ c < 256) (hc : ∀ k, k < m → w.cell? ⟨b, off + k, none⟩ = some (.int .u8 (l.getD k 0))) :
    Calls Try.prog 53 #[.slice (some ⟨b, off, none⟩) m cap] w fun e w' => e = .returned (.int .u64 (leVal l)) ∧ w = w' := by
  have HL : Hid (l.length = m) := hl
  have HB : Hid (∀ c ∈ l, 0 ≤ c ∧ c < 256) := hb
  clear hl hb
  go_enter Try.func53, Try.ntmps53
  go_wp2
  go_loop [3, 8] (fun x i => ∃ (k : Nat) (y : Int), k ≤ m ∧ i = .int .i64 k ∧ x = .int .u64 y ∧ Hid (y = leVal (l.take k))) (fun _ i => m - (intOf i).toNat)
  case atStart => exact ⟨0, 0, Nat.zero_le _, rfl, rfl, rfl⟩
  case round =>
    obtain ⟨k, y, hk, rfl, rfl, HY⟩ := hrel
    by_cases hlt : k < m
    · have h1 := hc k hlt
      have hkl : k < l.length := by rw [HL.out]; exact hlt
      obtain ⟨z, hz⟩ : ∃ z, z = l.getD k 0 := ⟨_, rfl⟩
      rw [← hz] at h1
      have hz0 : 0 ≤ z ∧ z < 256 := by
        rw [hz]; simp only [List.getD, List.getElem?_eq_getElem hkl, Option.getD_some]; exact HB.out _ (List.getElem_mem hkl)
      have hy := leVal_bd (l.take k) (fun c hc => HB.out c (List.mem_of_mem_take hc))
      rw [← HY.out, List.length_take, Nat.min_eq_left (by omega)] at hy
      have hor := or_step y z k (by omega) hy.1 hy.2 hz0.1 hz0.2
      have HOR : Hid (bits BinOp.or IntKind.u64 y (IntKind.u64.wrap (IntKind.u64.wrap z * 2 ^ (8 * k))) = y + 256 ^ k * z) := hor
      have HT : Hid (leVal (l.take (k + 1)) = y + 256 ^ k * z) := by
        show _ = _
        rw [take_snoc_getD l k hkl, leVal_append, ← HY.out, List.length_take, Nat.min_eq_left (by omega), ← hz]
        simp [leVal]
      clear hc hz hz0 hy hor hkl
      go_wp2
      go_round
      case rel => exact ⟨k + 1, _, by omega, by go_num, rfl, (HOR.out.trans HT.out.symm)⟩
      case measure => simp [intOf]; omega
    · obtain rfl : k = m := by omega
      go_wp2
      go_ret
      have HE : y = leVal l := by rw [HY.out, List.take_of_length_le (by rw [HL.out]; exact Nat.le_refl _)]
      exact ⟨ret_int HE, rfl⟩
end Go.Proofs.Ytomlndoffoeaiaa.Kit
