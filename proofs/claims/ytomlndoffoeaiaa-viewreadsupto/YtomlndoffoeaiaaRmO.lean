import Derived.Test.YtomlndoffoeaiaaRmG1
import Derived.Test.YtomlndoffoeaiaaRmG2
import Derived.Test.YtomlndoffoeaiaaRmG4
import Derived.Test.YtomlndoffoeaiaaRmG8
import Derived.Test.YtomlndoffoeaiaaRmH
import Derived.Test.YtomlndoffoeaiaaRmJ
import Derived.Test.YtomlndoffoeaiaaRmK
import Derived.Test.YtomlndoffoeaiaaReadsD
import Derived.Test.YtomlndoffoeaiaaReadsE
import Derived.Test.YtomlndoffoeaiaaReadsF
import Derived.Test.YtomlndoffoeaiaaReadsH
import Derived.Test.YtomlndoffoeaiaaReadsS
import Derived.Test.YtomlndoffoeaiaaReadsU
import Derived.Test.YtomlndoffoeaiaaReadsYb
import Derived.Test.YtomlndoffoeaiaaReadsZ
import Derived.Test.YtomlndoffoeaiaaRmL
namespace Go.Proofs.Ytomlndoffoeaiaa.Kit
open Go.RowKit Go.Deep
set_option linter.unusedVariables false

/-! ### a step keeps the room -/
theorem snC_get (c : Cn) : ∀ (S : List Sn) (i j : Nat) (s : Sn), S[i]? = some s → j < 6 → (S.flatMap (snC c))[i * 6 + j]? = (snC c s)[j]?
  | [], i, j, s, h, _ => by simp at h
  | x :: S, 0, j, s, h, hj => by
    simp at h
    subst h
    rw [List.flatMap_cons, Nat.zero_mul, Nat.zero_add, List.getElem?_append_left (by simpa [snC] using hj)]
  | x :: S, i + 1, j, s, h, hj => by
    have ih := snC_get c S i j s (by simpa using h) hj
    have hl : (snC c x).length = 6 := rfl
    rw [List.flatMap_cons, List.getElem?_append_right (by omega), hl, show (i + 1) * 6 + j - 6 = i * 6 + j by omega]
    exact ih
/-- the view that a step speaks of -/
structure At (c : Cn) (g : Gh) (w : World) (o : Int) (bl cl i : Nat) (s : Sn) : Prop where
  v2 : g.v2 = .slice (some ⟨bl, 0, none⟩) g.S.length cl
  pick : pickV o g.S.length = i
  cell : w.cell? ⟨c.m, 2, none⟩ = some (.slice (some ⟨bl, 0, none⟩) g.S.length cl)
  seen : SeenAt w bl i (.slice s.ao s.n s.cap) (.int .i64 s.off) (.pointer ((qOf c s.who).map fun b => ⟨b, 0, none⟩)) (.slice s.ao' s.n s.cap') (.int .i64 s.off) (.int .i64 s.who)
  ok : SnOk c s
theorem at_any {c : Cn} {g : Gh} {w : World} {k : Nat} (o : Int) (h : Inv c w g) (k : Ok c g k) : ∃ bl cl i s, At c g w o bl cl i s := by
  have hown : w.ownsRow 0 93 6 g.v2 g.S.length (g.S.flatMap (snC c)) := h.cm .seen
  obtain ⟨bl, cl, e⟩ := own_some hown k.s0
  have hp := pickV_bd o g.S.length (by have := k.s0; omega)
  obtain ⟨i, hi⟩ : ∃ i : Nat, pickV o g.S.length = i := ⟨(pickV o g.S.length).toNat, by omega⟩
  have hil : i < g.S.length := by omega
  have hs : g.S[i]? = some g.S[i] := List.getElem?_eq_getElem hil
  have cell : w.cell? ⟨c.m, 2, none⟩ = some (.slice (some ⟨bl, 0, none⟩) g.S.length cl) := by rw [← e]; exact h.cell rfl
  rw [e] at hown
  have get : ∀ j v, j < 6 → (snC c g.S[i])[j]? = some v → w.cell? ⟨bl, i * 6 + j, none⟩ = some v := fun j v hj hv => by
    have := hown.cells (g := bl) rfl (i * 6 + j) v ((snC_get c g.S i j _ hs hj).trans hv)
    rwa [add_lit0] at this
  exact ⟨bl, cl, i, g.S[i], e, hi, cell, ⟨get 0 _ (by omega) rfl, get 1 _ (by omega) rfl, get 2 _ (by omega) rfl, get 3 _ (by omega) rfl, get 4 _ (by omega) rfl, get 5 _ (by omega) rfl⟩, k.seen _ (List.getElem_mem hil)⟩
def Stp (c : Cn) (g : Gh) (k : Nat) (w : World) (e : Ending) (w' : World) : Prop := e = .returned (.bool true) ∧ ∃ g', Go c NoF w g w' g' ∧ Ok c g' (k + 4)
theorem Stp.idle {c : Cn} {g : Gh} {k : Nat} {w : World} {e : Ending} {w' : World} (h : Inv c w g) (o : Ok c g k) (q : e = .returned (.bool true) ∧ Keeps w w' (fun _ => False)) : Stp c g k w e w' := ⟨q.1, g, h.rest0 q.2, o.mono (by omega)⟩
theorem Stp.chain {c : Cn} {g : Gh} {k who : Nat} {w : World} {e : Ending} {w' : World} {a b : Int} (hw : who ≤ 2) (h : Inv c w g) (o : Ok c g k) (q : e = .returned (.bool true) ∧ Chain w w' (qOf c who) (gqOf g who) (tellR (qOf c who) (wOf g who) a b) (fun W W' => TD c g who W W' a b)) : Stp c g k w e w' := by
  obtain ⟨gq', v', hg⟩ := h.chain hw q.2
  exact ⟨q.1, _, hg, (o.told hw).mono (by omega)⟩
theorem Stp.to {c : Cn} {g : Gh} {k : Nat} {w W : World} {e : Ending} {w' : World} (h : Inv c w g) (hk : Keeps w W (fun _ => False)) (q : Stp c g k W e w') : Stp c g k w e w' := by
  obtain ⟨q1, g', q2, q3⟩ := q
  exact ⟨q1, g', (h.rest0 hk).trans q2 (fun _ f => f.elim), q3⟩
theorem add_cast (a b : Nat) : (a : Int) + (b : Int) = ((a + b : Nat) : Int) := by push_cast; rfl
theorem Ok.join {c : Cn} {g : Gh} {k : Nat} {s : Sn} {v : Value} (h : Ok c g k) (hs : SnOk c s) (hl : g.S.length < 40) : Ok c { g with v2 := v, S := g.S ++ [s] } k :=
  { h with
    seen := fun x hx => by
      rcases List.mem_append.1 hx with e | e
      · exact h.seen x e
      · simp at e; subst e; exact hs
    s0 := by show 0 < (g.S ++ [s]).length; simp
    s1 := by show (g.S ++ [s]).length ≤ 40; simp; omega }
theorem st_part (c : Cn) (g : Gh) (k : Nat) (o a b : Int) (bl cl i : Nat) (s : Sn) (w : World) (h : Inv c w g) (ok : Ok c g k) (hk : k ≤ 50000000) (A : At c g w o bl cl i s) (ho0 : -9223372036854775808 ≤ o) (ho1 : o ≤ 9223372036854775807) (ha0 : -9223372036854775808 ≤ a) (ha1 : a ≤ 9223372036854775807) (hb0 : -9223372036854775808 ≤ b) (hb1 : b ≤ 9223372036854775807) :
    Calls Try.prog 9 #[.pointer (some ⟨c.m, 0, none⟩), opV 1 o a b] w (Stp c g k w) := by
  have hs := A.ok
  have hw := hs.who
  have hle := hs.v.le
  have hN := ok.N
  have hn : s.n ≤ 1048576 := by omega
  have hb1' := ok.b1
  have hb2' := ok.b2
  have hpl : PlaceOk s.off s.n := ⟨by omega, by omega⟩
  by_cases hin : 0 ≤ a ∧ 0 ≤ b ∧ a + b ≤ s.n
  · obtain ⟨a', rfl⟩ : ∃ a' : Nat, a = a' := ⟨a.toNat, by omega⟩
    obtain ⟨b', rfl⟩ : ∃ b' : Nat, b = b' := ⟨b.toNat, by omega⟩
    have hab : a' + b' ≤ s.n := by omega
    have h1 : ∀ w, Calls Try.prog 17 #[viewV s.ao s.n s.cap s.off (qOf c s.who), .int .i64 a', .int .i64 b'] w fun e w' => (∃ ao1 cap1, e = .returned (.tuple #[viewV ao1 b' cap1 ((s.off + a' : Nat) : Int) (qOf c s.who), .int .i64 0]) ∧ VOk c.A c.N (s.off + a') ao1 b' cap1) ∧ Keeps w w' (fun _ => False) := fun w => (part_in s.ao s.n s.cap s.off (qOf c s.who) a' b' w hs.v.form hab hpl).mono fun e w' q => by
      obtain ⟨⟨ao1, cap1, e1, f1, f2, f3⟩, q2⟩ := q
      rw [add_cast] at e1
      exact ⟨⟨ao1, cap1, e1, hs.v.part hab f1 f2 f3⟩, q2⟩
    have h2 : ∀ w, Calls Try.prog 59 #[refV s.ao' s.n s.cap' s.off, .int .i64 a', .int .i64 b'] w fun e w' => (∃ ao1 cap1, e = .returned (.tuple #[refV ao1 b' cap1 ((s.off + a' : Nat) : Int), .int .i64 0]) ∧ VOk c.A c.N (s.off + a') ao1 b' cap1) ∧ Keeps w w' (fun _ => False) := fun w => (rpart_in s.ao' s.n s.cap' s.off a' b' w hs.r.form hab hpl).mono fun e w' q => by
      obtain ⟨⟨ao1, cap1, e1, f1, f2, f3⟩, q2⟩ := q
      rw [add_cast] at e1
      exact ⟨⟨ao1, cap1, e1, hs.r.part hab f1 f2 f3⟩, q2⟩
    have hc2 : (csOf c g)[2]? = some (.slice (some ⟨bl, 0, none⟩) g.S.length cl) := by rw [← A.v2]; rfl
    by_cases hroom : g.S.length < 40
    · refine (step_part c.m bl g.S.length cl i o a' b' s.ao s.n s.cap s.off (qOf c s.who) s.ao' s.n s.cap' s.off s.who (fun W w' => ∃ ao1 cap1 ao2 cap2, VOk c.A c.N (s.off + a') ao1 b' cap1 ∧ VOk c.A c.N (s.off + a') ao2 b' cap2 ∧ RowDone W w' c.m 2 93 6 (csOf c g) (.slice (some ⟨bl, 0, none⟩) g.S.length cl) (g.S.length + 1) (g.S.flatMap (snC c) ++ [.slice ao1 b' cap1, .int .i64 ((s.off + a' : Nat) : Int), .pointer ((qOf c s.who).map fun b => ⟨b, 0, none⟩), .slice ao2 b' cap2, .int .i64 ((s.off + a' : Nat) : Int), .int .i64 s.who])) w ho0 ho1 ok.s0 ok.s1 A.pick A.cell A.seen (fun W kW => ?_)).mono ?_
      · have hI := h.idle kW
        exact part_joins s.ao s.n s.cap s.off (qOf c s.who) s.ao' s.n s.cap' s.off s.who c.m o a' b' b' ((s.off + a' : Nat) : Int) ((s.off + a' : Nat) : Int) _ _ W (csOf c g) (some ⟨bl, 0, none⟩) g.S.length cl hI.room hc2 hroom (g.S.flatMap (snC c)) (by rw [← A.v2]; exact hI.cm .seen) h1 h2
      · rintro e w' ⟨rfl, W, kW, ao1, cap1, ao2, cap2, p1, p2, rd⟩
        rw [← A.v2] at rd
        obtain ⟨v', hg⟩ := (h.idle kW).join (s := ⟨ao1, b', cap1, s.off + a', ao2, cap2, s.who⟩) rd
        exact ⟨rfl, _, (h.rest0 kW).trans hg (fun _ f => f.elim), (ok.join (s := ⟨ao1, b', cap1, s.off + a', ao2, cap2, s.who⟩) ⟨p1, p2, hw⟩ hroom).mono (by omega)⟩
    · refine (step_part c.m bl g.S.length cl i o a' b' s.ao s.n s.cap s.off (qOf c s.who) s.ao' s.n s.cap' s.off s.who (fun W w' => Keeps W w' (fun _ => False)) w ho0 ho1 ok.s0 ok.s1 A.pick A.cell A.seen (fun W kW => ?_)).mono ?_
      · exact part_full s.ao s.n s.cap s.off (qOf c s.who) s.ao' s.n s.cap' s.off s.who c.m o a' b' b' ((s.off + a' : Nat) : Int) ((s.off + a' : Nat) : Int) _ _ W (csOf c g) (some ⟨bl, 0, none⟩) g.S.length cl (h.idle kW).room hc2 (by omega) h1 h2
      · rintro e w' ⟨rfl, W, kW, q⟩
        exact Stp.idle h ok ⟨rfl, kW.trans q fun _ _ e => e⟩
  · refine (step_part c.m bl g.S.length cl i o a b s.ao s.n s.cap s.off (qOf c s.who) s.ao' s.n s.cap' s.off s.who (fun W w' => Keeps W w' (fun _ => False)) w ho0 ho1 ok.s0 ok.s1 A.pick A.cell A.seen (fun W kW => ?_)).mono ?_
    · exact part_err s.ao s.n s.cap s.off (qOf c s.who) s.ao' s.n s.cap' s.off s.who c.m o a b W (fun w => part_out _ _ _ _ _ a b w hin) (fun w => rpart_out _ _ _ _ a b w (by omega) ha0 ha1 hb1 hin)
    · rintro e w' ⟨rfl, W, kW, q⟩
      exact Stp.idle h ok ⟨rfl, kW.trans q fun _ _ e => e⟩
theorem st_byte (c : Cn) (g : Gh) (k : Nat) (o a b : Int) (bl cl i : Nat) (s : Sn) (w : World) (h : Inv c w g) (ok : Ok c g k) (hk : k ≤ 50000000) (A : At c g w o bl cl i s) (ho0 : -9223372036854775808 ≤ o) (ho1 : o ≤ 9223372036854775807) (ha0 : -9223372036854775808 ≤ a) (ha1 : a ≤ 9223372036854775807) (hb0 : -9223372036854775808 ≤ b) (hb1 : b ≤ 9223372036854775807) :
    Calls Try.prog 9 #[.pointer (some ⟨c.m, 0, none⟩), opV 2 o a b] w (Stp c g k w) := by
  have hs := A.ok
  have hw := hs.who
  have hle := hs.v.le
  have hN := ok.N
  have hn : s.n ≤ 1048576 := by omega
  have hb1' := ok.b1
  have hb2' := ok.b2
  by_cases hin : 0 ≤ a ∧ a < s.n
  · obtain ⟨a', rfl⟩ : ∃ a' : Nat, a = a' := ⟨a.toNat, by omega⟩
    refine (step_byte_ok c.m bl g.S.length cl i o a' b s.ao s.n s.cap s.off (qOf c s.who) s.ao' s.n s.cap' s.off s.who ((lOf g s).getD a' 0) (gqOf g s.who) (tellR (qOf c s.who) (wOf g s.who) (s.off + a') (s.off + a' + 1)) (fun W W' => TD c g s.who W W' (s.off + a') (s.off + a' + 1)) w ho0 ho1 ok.s0 ok.s1 A.pick A.cell A.seen (h.wlt hw)
      (fun W kW => byte_in _ _ _ _ _ _ _ _ a' W (by omega) ((h.idle kW).view ok hs (by omega))) (fun W W1 kW hd => rbyte_in _ _ _ _ _ a' W1 (by omega) (Inv.ref ((h.idle kW).rest hw hd.sub).2.2.2 ok hs)) (fun W kW => by
        obtain ⟨r1, r2, r3, -⟩ := h.rest hw kW
        exact reads_td c g _ _ _ _ s.off s.who a' 1 W hw (by omega) r1 r2 r3 (by omega) (by omega))).mono fun e w' q => Stp.chain hw h ok q
  · exact (step_byte_err c.m bl g.S.length cl i o a b s.ao s.n s.cap s.off (qOf c s.who) s.ao' s.n s.cap' s.off s.who 2 (by omega) w ho0 ho1 ok.s0 ok.s1 A.pick A.cell A.seen (fun w => byte_out _ _ _ _ _ a w hin) (fun w => rbyte_out _ _ _ _ a w (by omega) hin)).mono fun e w' q => Stp.idle h ok q
theorem st_text (c : Cn) (g : Gh) (k : Nat) (o a b : Int) (bl cl i : Nat) (s : Sn) (w : World) (h : Inv c w g) (ok : Ok c g k) (hk : k ≤ 50000000) (A : At c g w o bl cl i s) (ho0 : -9223372036854775808 ≤ o) (ho1 : o ≤ 9223372036854775807) (ha0 : -9223372036854775808 ≤ a) (ha1 : a ≤ 9223372036854775807) (hb0 : -9223372036854775808 ≤ b) (hb1 : b ≤ 9223372036854775807) :
    Calls Try.prog 9 #[.pointer (some ⟨c.m, 0, none⟩), opV 5 o a b] w (Stp c g k w) := by
  have hs := A.ok
  have hw := hs.who
  have hle := hs.v.le
  have hN := ok.N
  have hn : s.n ≤ 1048576 := by omega
  have hb1' := ok.b1
  have hb2' := ok.b2
  by_cases hin : 0 ≤ a ∧ 0 ≤ b ∧ a + b ≤ s.n
  · obtain ⟨a', rfl⟩ : ∃ a' : Nat, a = a' := ⟨a.toNat, by omega⟩
    obtain ⟨b', rfl⟩ : ∃ b' : Nat, b = b' := ⟨b.toNat, by omega⟩
    refine (step_text_ok c.m bl g.S.length cl i o a' b' s.ao s.n s.cap s.off (qOf c s.who) s.ao' s.n s.cap' s.off s.who (strOf (((lOf g s).drop a').take b')) (gqOf g s.who) (tellR (qOf c s.who) (wOf g s.who) (s.off + a') (s.off + a' + b')) (fun W W' => TD c g s.who W W' (s.off + a') (s.off + a' + b')) w ho0 ho1 ok.s0 ok.s1 A.pick A.cell A.seen (h.wlt hw)
      (fun W kW => vtext_in _ _ _ _ _ _ _ _ a' b' W (by omega) ((h.idle kW).view ok hs (by omega))) (fun W W1 kW hd => rtext_in _ _ _ _ _ a' b' W1 (by omega) (Inv.ref ((h.idle kW).rest hw hd.sub).2.2.2 ok hs) ⟨by omega, by omega⟩) (fun W kW => by
        obtain ⟨r1, r2, r3, -⟩ := h.rest hw kW
        exact reads_td c g _ _ _ _ s.off s.who a' b' W hw (by omega) r1 r2 r3 (by omega) (by omega))).mono fun e w' q => Stp.chain hw h ok q
  · exact (step_text_err c.m bl g.S.length cl i o a b s.ao s.n s.cap s.off (qOf c s.who) s.ao' s.n s.cap' s.off s.who 2 (by omega) w ho0 ho1 ok.s0 ok.s1 A.pick A.cell A.seen (fun w => vtext_out _ _ _ _ _ a b w hin) (fun w => rtext_out _ _ _ _ a b w (by omega) ha0 ha1 hb1 hin)).mono fun e w' q => Stp.idle h ok q
theorem st_load (c : Cn) (g : Gh) (k : Nat) (o a b : Int) (bl cl i : Nat) (s : Sn) (w : World) (h : Inv c w g) (ok : Ok c g k) (hk : k ≤ 50000000) (A : At c g w o bl cl i s) (ho0 : -9223372036854775808 ≤ o) (ho1 : o ≤ 9223372036854775807) (ha0 : -9223372036854775808 ≤ a) (ha1 : a ≤ 9223372036854775807) (hb0 : -9223372036854775808 ≤ b) (hb1 : b ≤ 9223372036854775807) :
    Calls Try.prog 9 #[.pointer (some ⟨c.m, 0, none⟩), opV 3 o a b] w (Stp c g k w) := by
  have hs := A.ok
  have hw := hs.who
  have hle := hs.v.le
  have hN := ok.N
  have hn : s.n ≤ 1048576 := by omega
  have hb1' := ok.b1
  have hb2' := ok.b2
  have err : ∀ e0 : Int, e0 ≠ 0 → (∀ w, Calls Try.prog 19 #[viewV s.ao s.n s.cap s.off (qOf c s.who), .int .i64 a, .int .i64 b] w fun e w' => e = .returned (.tuple #[.int .u64 0, .int .i64 e0]) ∧ Keeps w w' (fun _ => False)) → (∀ w, Calls Try.prog 60 #[refV s.ao' s.n s.cap' s.off, .int .i64 a, .int .i64 b] w fun e w' => e = .returned (.tuple #[.int .u64 0, .int .i64 e0]) ∧ Keeps w w' (fun _ => False)) → Calls Try.prog 9 #[.pointer (some ⟨c.m, 0, none⟩), opV 3 o a b] w (Stp c g k w) := fun e0 he h1 h2 => by
    refine (step_load c.m bl g.S.length cl i o a b s.ao s.n s.cap s.off (qOf c s.who) s.ao' s.n s.cap' s.off s.who (fun W w' => Keeps W w' (fun _ => False)) w ho0 ho1 ok.s0 ok.s1 A.pick A.cell A.seen (fun W kW => loads_load_err s.ao s.n s.cap s.off (qOf c s.who) s.ao' s.n s.cap' s.off s.who c.m o a b e0 W he h1 h2)).mono ?_
    rintro e w' ⟨rfl, W, kW, q⟩
    exact Stp.idle h ok ⟨rfl, kW.trans q fun _ _ e => e⟩
  by_cases hwd : wideB b = true
  · by_cases hin : 0 ≤ a ∧ 0 ≤ b ∧ a + b ≤ s.n
    · obtain ⟨a', rfl⟩ : ∃ a' : Nat, a = a' := ⟨a.toNat, by omega⟩
      obtain ⟨b', rfl⟩ : ∃ b' : Nat, b = b' := ⟨b.toNat, by omega⟩
      refine (step_load c.m bl g.S.length cl i o a' b' s.ao s.n s.cap s.off (qOf c s.who) s.ao' s.n s.cap' s.off s.who (fun W w' => Chain W w' (qOf c s.who) (gqOf g s.who) (tellR (qOf c s.who) (wOf g s.who) (s.off + a') (s.off + a' + b')) (fun W W' => TD c g s.who W W' (s.off + a') (s.off + a' + b'))) w ho0 ho1 ok.s0 ok.s1 A.pick A.cell A.seen (fun V kV => ?_)).mono ?_
      · have hI := h.idle kV
        exact loads_load_ok s.ao s.n s.cap s.off (qOf c s.who) s.ao' s.n s.cap' s.off s.who c.m o a' b' (leVal (((lOf g s).drop a').take b')) (gqOf g s.who) (tellR (qOf c s.who) (wOf g s.who) (s.off + a') (s.off + a' + b')) (fun W W' => TD c g s.who W W' (s.off + a') (s.off + a' + b')) V (hI.wlt hw)
          (fun W kW => load_in _ _ _ _ _ _ _ _ a' b' W hwd (by omega) ((hI.idle kW).view ok hs (by omega))) (fun W W1 kW hd => rload_in _ _ _ _ _ a' b' W1 hwd (by omega) (Inv.ref ((hI.idle kW).rest hw hd.sub).2.2.2 ok hs)) (fun W kW => by
        obtain ⟨r1, r2, r3, -⟩ := hI.rest hw kW
        exact reads_td c g _ _ _ _ s.off s.who a' b' W hw (by omega) r1 r2 r3 (by omega) (by omega))
      · rintro e w' ⟨rfl, W, kW, q⟩
        exact Stp.to h kW (Stp.chain hw (h.idle kW) ok ⟨rfl, q⟩)
    · exact err 2 (by omega) (fun w => load_out _ _ _ _ _ a b w hwd hin) (fun w => rload_out _ _ _ _ a b w (by omega) ha0 ha1 hwd hin)
  · have hwd' : wideB b = false := by simpa using hwd
    exact err 1 (by omega) (fun w => load_arg _ _ _ _ _ a b w hwd') (fun w => rload_arg _ _ _ _ a b w hwd')
theorem st_signed (c : Cn) (g : Gh) (k : Nat) (o a b : Int) (bl cl i : Nat) (s : Sn) (w : World) (h : Inv c w g) (ok : Ok c g k) (hk : k ≤ 50000000) (A : At c g w o bl cl i s) (ho0 : -9223372036854775808 ≤ o) (ho1 : o ≤ 9223372036854775807) (ha0 : -9223372036854775808 ≤ a) (ha1 : a ≤ 9223372036854775807) (hb0 : -9223372036854775808 ≤ b) (hb1 : b ≤ 9223372036854775807) :
    Calls Try.prog 9 #[.pointer (some ⟨c.m, 0, none⟩), opV 4 o a b] w (Stp c g k w) := by
  have hs := A.ok
  have hw := hs.who
  have hle := hs.v.le
  have hN := ok.N
  have hn : s.n ≤ 1048576 := by omega
  have hb1' := ok.b1
  have hb2' := ok.b2
  have err : ∀ e0 : Int, e0 ≠ 0 → (∀ w, Calls Try.prog 19 #[viewV s.ao s.n s.cap s.off (qOf c s.who), .int .i64 a, .int .i64 b] w fun e w' => e = .returned (.tuple #[.int .u64 0, .int .i64 e0]) ∧ Keeps w w' (fun _ => False)) → (∀ w, Calls Try.prog 60 #[refV s.ao' s.n s.cap' s.off, .int .i64 a, .int .i64 b] w fun e w' => e = .returned (.tuple #[.int .u64 0, .int .i64 e0]) ∧ Keeps w w' (fun _ => False)) → Calls Try.prog 9 #[.pointer (some ⟨c.m, 0, none⟩), opV 4 o a b] w (Stp c g k w) := fun e0 he h1 h2 => by
    refine (step_signed c.m bl g.S.length cl i o a b s.ao s.n s.cap s.off (qOf c s.who) s.ao' s.n s.cap' s.off s.who (fun W w' => Keeps W w' (fun _ => False)) w ho0 ho1 ok.s0 ok.s1 A.pick A.cell A.seen (fun W kW => loads_signed_err s.ao s.n s.cap s.off (qOf c s.who) s.ao' s.n s.cap' s.off s.who c.m o a b e0 W he (fun w => signed_err _ _ _ _ _ _ _ _ w he h1) (fun w => rsigned_err _ _ _ _ _ _ _ w he h2))).mono ?_
    rintro e w' ⟨rfl, W, kW, q⟩
    exact Stp.idle h ok ⟨rfl, kW.trans q fun _ _ e => e⟩
  by_cases hwd : wideB b = true
  · by_cases hin : 0 ≤ a ∧ 0 ≤ b ∧ a + b ≤ s.n
    · obtain ⟨a', rfl⟩ : ∃ a' : Nat, a = a' := ⟨a.toNat, by omega⟩
      obtain ⟨b', rfl⟩ : ∃ b' : Nat, b = b' := ⟨b.toNat, by omega⟩
      refine (step_signed c.m bl g.S.length cl i o a' b' s.ao s.n s.cap s.off (qOf c s.who) s.ao' s.n s.cap' s.off s.who (fun W w' => Chain W w' (qOf c s.who) (gqOf g s.who) (tellR (qOf c s.who) (wOf g s.who) (s.off + a') (s.off + a' + b')) (fun W W' => TD c g s.who W W' (s.off + a') (s.off + a' + b'))) w ho0 ho1 ok.s0 ok.s1 A.pick A.cell A.seen (fun V kV => ?_)).mono ?_
      · have hI := h.idle kV
        exact loads_signed_ok s.ao s.n s.cap s.off (qOf c s.who) s.ao' s.n s.cap' s.off s.who c.m o a' b' (signV (leVal (((lOf g s).drop a').take b')) b') (gqOf g s.who) (tellR (qOf c s.who) (wOf g s.who) (s.off + a') (s.off + a' + b')) (fun W W' => TD c g s.who W W' (s.off + a') (s.off + a' + b')) V (hI.wlt hw)
          (fun W kW => signed_in _ _ _ _ _ _ _ _ a' b' W hwd (by omega) ((hI.idle kW).view ok hs (by omega))) (fun W W1 kW hd => rsigned_in _ _ _ _ _ a' b' W1 hwd (by omega) (Inv.ref ((hI.idle kW).rest hw hd.sub).2.2.2 ok hs)) (fun W kW => by
        obtain ⟨r1, r2, r3, -⟩ := hI.rest hw kW
        exact reads_td c g _ _ _ _ s.off s.who a' b' W hw (by omega) r1 r2 r3 (by omega) (by omega))
      · rintro e w' ⟨rfl, W, kW, q⟩
        exact Stp.to h kW (Stp.chain hw (h.idle kW) ok ⟨rfl, q⟩)
    · exact err 2 (by omega) (fun w => load_out _ _ _ _ _ a b w hwd hin) (fun w => rload_out _ _ _ _ a b w (by omega) ha0 ha1 hwd hin)
  · have hwd' : wideB b = false := by simpa using hwd
    exact err 1 (by omega) (fun w => load_arg _ _ _ _ _ a b w hwd') (fun w => rload_arg _ _ _ _ a b w hwd')
theorem st_raw (c : Cn) (g : Gh) (k : Nat) (o a b : Int) (bl cl i : Nat) (s : Sn) (w : World) (h : Inv c w g) (ok : Ok c g k) (hk : k ≤ 50000000) (A : At c g w o bl cl i s) (ho0 : -9223372036854775808 ≤ o) (ho1 : o ≤ 9223372036854775807) (ha0 : -9223372036854775808 ≤ a) (ha1 : a ≤ 9223372036854775807) (hb0 : -9223372036854775808 ≤ b) (hb1 : b ≤ 9223372036854775807) :
    Calls Try.prog 9 #[.pointer (some ⟨c.m, 0, none⟩), opV 6 o a b] w (Stp c g k w) := by
  refine (step_raw c.m bl g.S.length cl i o a b s.ao s.n s.cap s.off (qOf c s.who) s.ao' s.n s.cap' s.off s.who (fun W w' => ∃ g', Go c NoF W g w' g' ∧ Ok c g' (k + 1)) w ho0 ho1 ok.s0 ok.s1 A.pick A.cell A.seen (fun W kW => raw_inv c g k s.ao s.ao' s.n s.cap s.off s.cap' s.who W (h.idle kW) ok (by omega) A.ok)).mono ?_
  rintro e w' ⟨rfl, W, kW, g', q1, q2⟩
  exact ⟨rfl, g', (h.rest0 kW).trans q1 (fun _ f => f.elim), q2.mono (by omega)⟩
end Go.Proofs.Ytomlndoffoeaiaa.Kit
namespace Go.Proofs.Ytomlndoffoeaiaa.Kit
open Go.RowKit Go.Deep
set_option linter.unusedVariables false

theorem num_wrap (l : List Int) (hl : ∀ x ∈ l, 0 ≤ x ∧ x < 256) (a n k j : Nat) (hk : k ≤ 8) (hj : j < n) : IntKind.u64.wrap ((nums l a n k).getD j 0) = (nums l a n k).getD j 0 := by
  have e : (nums l a n k).getD j 0 = leVal ((l.drop (a + j * k)).take k) := by simp [nums, hj]
  rw [e]
  have hb := leVal_bd ((l.drop (a + j * k)).take k) fun x hx => hl x (List.mem_of_mem_drop (List.mem_of_mem_take hx))
  have hle : ((l.drop (a + j * k)).take k).length ≤ k := by simp; omega
  have h8 : (256 : Int) ^ ((l.drop (a + j * k)).take k).length ≤ 18446744073709551616 := by
    have hc : ((l.drop (a + j * k)).take k).length ≤ 8 := Nat.le_trans hle hk
    generalize ((l.drop (a + j * k)).take k).length = m at hc
    have : m = 0 ∨ m = 1 ∨ m = 2 ∨ m = 3 ∨ m = 4 ∨ m = 5 ∨ m = 6 ∨ m = 7 ∨ m = 8 := by omega
    rcases this with rfl | rfl | rfl | rfl | rfl | rfl | rfl | rfl | rfl <;> decide
  rw [IntKind.wrap_u64]
  exact Int.emod_eq_of_lt hb.1 (by omega)
theorem wat_same {c : Cn} {g : Gh} {who : Nat} {w w' : World} (hw : who ≤ 2) (h : Inv c w g) (k : Keeps w w' (fun _ => False)) : WatDone w w' (qOf c who) (gqOf g who) (wOf g who) :=
  ⟨gqOf g who, (h.idle k).looks hw, k.mono fun _ _ f => f.elim, .inl rfl⟩
theorem lOf_eq {g g' : Gh} (s : Sn) (e : g'.L = g.L) : lOf g' s = lOf g s := by unfold lOf; rw [e]
theorem nums_len (l : List Int) (a n k : Nat) : (nums l a n k).length = n := by simp [nums]
theorem numw1 (c : Cn) (g : Gh) (k : Nat) (a b : Int) (s : Sn) (w : World) (h : Inv c w g) (ok : Ok c g k) (hk : k ≤ 50000000) (hs : SnOk c s) (ha0 : -9223372036854775808 ≤ a) (ha1 : a ≤ 9223372036854775807) (hb1 : b ≤ 9223372036854775807) :
    Calls Try.prog 46 #[.pointer (some ⟨c.m, 0, none⟩), seenV s.ao s.n s.cap s.off (qOf c s.who) s.ao' s.n s.cap' s.off s.who, .int .i64 0, .int .i64 a, .int .i64 b] w (Stp c g k w) := by
  have hw := hs.who
  have hle := hs.v.le
  have hN := ok.N
  have hlb : ∀ x ∈ lOf g s, 0 ≤ x ∧ x < 256 := fun x hx => ok.byte x (List.mem_of_mem_drop (List.mem_of_mem_take hx))
  by_cases hin : 0 ≤ a ∧ 0 ≤ b ∧ a + b ≤ s.n
  · obtain ⟨a', rfl⟩ : ∃ a' : Nat, a = a' := ⟨a.toNat, by omega⟩
    obtain ⟨b', rfl⟩ : ∃ b' : Nat, b = b' := ⟨b.toNat, by omega⟩
    refine numbers_gen1 c g k s.ao s.ao' s.n s.cap s.off s.cap' s.who a' b' a' b' (nums (lOf g s) a' b' 1) 0 w h ok (by omega) hs (nums_len _ _ _ _) (by omega) (fun j hj => num_wrap _ hlb _ _ _ _ (by omega) hj) (fun _ => ⟨rfl, rfl, by omega⟩) (fun W hW => ?_) (fun W g' hW ok' hL => ?_)
    · exact rnumbers1_in s.ao' s.n s.cap' s.off (lOf g s) a' b' W (by omega) (by omega) (by omega) (Inv.ref (hW.cm .all) ok hs)
    · have hv := hW.view ok' hs (by omega)
      rw [lOf_eq s hL] at hv
      refine (numbers8_in s.ao s.n s.cap s.off (qOf c s.who) (gqOf g' s.who) (wOf g' s.who) (lOf g s) a' b' W (by omega) (by omega) hv).mono ?_
      rintro e w' ⟨gg, rfl, h1, h2, h3⟩
      refine ⟨_, rfl, own_ofRow h2 (by simp [nums]) (by omega), fun b e => by simp [Value.ownBlock] at e; omega, ?_⟩
      rw [if_pos rfl]
      exact h3
  · refine numbers_gen1 c g k s.ao s.ao' s.n s.cap s.off s.cap' s.who a b 0 0 [] 2 w h ok (by omega) hs rfl (by omega) (fun j hj => by omega) (fun e => by simp at e) (fun W hW => ?_) (fun W g' hW ok' hL => ?_)
    · refine (rnumbers1_out s.ao' s.n s.cap' s.off a b W (by omega) ha0 ha1 hin).mono ?_
      rintro e w' ⟨rfl, q⟩
      exact ⟨_, rfl, World.ownsRow_nil _ _ _ _, fun b e => by simp [Value.ownBlock] at e, q⟩
    · refine (numbers8_out s.ao s.n s.cap s.off (qOf c s.who) a b W hb1 hin).mono ?_
      rintro e w' ⟨rfl, q⟩
      refine ⟨_, rfl, World.ownsRow_nil _ _ _ _, fun b e => by simp [Value.ownBlock] at e, ?_⟩
      rw [if_neg (by omega)]
      exact wat_same hw hW q
theorem numw2 (c : Cn) (g : Gh) (k : Nat) (a b : Int) (s : Sn) (w : World) (h : Inv c w g) (ok : Ok c g k) (hk : k ≤ 50000000) (hs : SnOk c s) (ha0 : -9223372036854775808 ≤ a) (ha1 : a ≤ 9223372036854775807) (hb1 : b ≤ 9223372036854775807) :
    Calls Try.prog 46 #[.pointer (some ⟨c.m, 0, none⟩), seenV s.ao s.n s.cap s.off (qOf c s.who) s.ao' s.n s.cap' s.off s.who, .int .i64 1, .int .i64 a, .int .i64 b] w (Stp c g k w) := by
  have hw := hs.who
  have hle := hs.v.le
  have hN := ok.N
  have hlb : ∀ x ∈ lOf g s, 0 ≤ x ∧ x < 256 := fun x hx => ok.byte x (List.mem_of_mem_drop (List.mem_of_mem_take hx))
  by_cases hin : 0 ≤ a ∧ 0 ≤ b ∧ a + b * 2 ≤ s.n
  · obtain ⟨a', rfl⟩ : ∃ a' : Nat, a = a' := ⟨a.toNat, by omega⟩
    obtain ⟨b', rfl⟩ : ∃ b' : Nat, b = b' := ⟨b.toNat, by omega⟩
    refine numbers_gen2 c g k s.ao s.ao' s.n s.cap s.off s.cap' s.who a' b' a' b' (nums (lOf g s) a' b' 2) 0 w h ok (by omega) hs (nums_len _ _ _ _) (by omega) (fun j hj => num_wrap _ hlb _ _ _ _ (by omega) hj) (fun _ => ⟨rfl, rfl, by omega⟩) (fun W hW => ?_) (fun W g' hW ok' hL => ?_)
    · exact rnumbers2_in s.ao' s.n s.cap' s.off (lOf g s) a' b' W (by omega) (by omega) (by omega) (Inv.ref (hW.cm .all) ok hs)
    · have hv := hW.view ok' hs (by omega)
      rw [lOf_eq s hL] at hv
      refine (numbers16_in s.ao s.n s.cap s.off (qOf c s.who) (gqOf g' s.who) (wOf g' s.who) (lOf g s) a' b' W (by omega) (by omega) hv).mono ?_
      rintro e w' ⟨gg, rfl, h1, h2, h3⟩
      refine ⟨_, rfl, own_ofRow h2 (by simp [nums]) (by omega), fun b e => by simp [Value.ownBlock] at e; omega, ?_⟩
      rw [if_pos rfl]
      exact h3
  · refine numbers_gen2 c g k s.ao s.ao' s.n s.cap s.off s.cap' s.who a b 0 0 [] 2 w h ok (by omega) hs rfl (by omega) (fun j hj => by omega) (fun e => by simp at e) (fun W hW => ?_) (fun W g' hW ok' hL => ?_)
    · refine (rnumbers2_out s.ao' s.n s.cap' s.off a b W (by omega) ha0 ha1 hin).mono ?_
      rintro e w' ⟨rfl, q⟩
      exact ⟨_, rfl, World.ownsRow_nil _ _ _ _, fun b e => by simp [Value.ownBlock] at e, q⟩
    · refine (numbers16_out s.ao s.n s.cap s.off (qOf c s.who) a b W hb1 hin).mono ?_
      rintro e w' ⟨rfl, q⟩
      refine ⟨_, rfl, World.ownsRow_nil _ _ _ _, fun b e => by simp [Value.ownBlock] at e, ?_⟩
      rw [if_neg (by omega)]
      exact wat_same hw hW q
theorem numw4 (c : Cn) (g : Gh) (k : Nat) (a b : Int) (s : Sn) (w : World) (h : Inv c w g) (ok : Ok c g k) (hk : k ≤ 50000000) (hs : SnOk c s) (ha0 : -9223372036854775808 ≤ a) (ha1 : a ≤ 9223372036854775807) (hb1 : b ≤ 9223372036854775807) :
    Calls Try.prog 46 #[.pointer (some ⟨c.m, 0, none⟩), seenV s.ao s.n s.cap s.off (qOf c s.who) s.ao' s.n s.cap' s.off s.who, .int .i64 2, .int .i64 a, .int .i64 b] w (Stp c g k w) := by
  have hw := hs.who
  have hle := hs.v.le
  have hN := ok.N
  have hlb : ∀ x ∈ lOf g s, 0 ≤ x ∧ x < 256 := fun x hx => ok.byte x (List.mem_of_mem_drop (List.mem_of_mem_take hx))
  by_cases hin : 0 ≤ a ∧ 0 ≤ b ∧ a + b * 4 ≤ s.n
  · obtain ⟨a', rfl⟩ : ∃ a' : Nat, a = a' := ⟨a.toNat, by omega⟩
    obtain ⟨b', rfl⟩ : ∃ b' : Nat, b = b' := ⟨b.toNat, by omega⟩
    refine numbers_gen4 c g k s.ao s.ao' s.n s.cap s.off s.cap' s.who a' b' a' b' (nums (lOf g s) a' b' 4) 0 w h ok (by omega) hs (nums_len _ _ _ _) (by omega) (fun j hj => num_wrap _ hlb _ _ _ _ (by omega) hj) (fun _ => ⟨rfl, rfl, by omega⟩) (fun W hW => ?_) (fun W g' hW ok' hL => ?_)
    · exact rnumbers4_in s.ao' s.n s.cap' s.off (lOf g s) a' b' W (by omega) (by omega) (by omega) (Inv.ref (hW.cm .all) ok hs)
    · have hv := hW.view ok' hs (by omega)
      rw [lOf_eq s hL] at hv
      refine (numbers32_in s.ao s.n s.cap s.off (qOf c s.who) (gqOf g' s.who) (wOf g' s.who) (lOf g s) a' b' W (by omega) (by omega) hv).mono ?_
      rintro e w' ⟨gg, rfl, h1, h2, h3⟩
      refine ⟨_, rfl, own_ofRow h2 (by simp [nums]) (by omega), fun b e => by simp [Value.ownBlock] at e; omega, ?_⟩
      rw [if_pos rfl]
      exact h3
  · refine numbers_gen4 c g k s.ao s.ao' s.n s.cap s.off s.cap' s.who a b 0 0 [] 2 w h ok (by omega) hs rfl (by omega) (fun j hj => by omega) (fun e => by simp at e) (fun W hW => ?_) (fun W g' hW ok' hL => ?_)
    · refine (rnumbers4_out s.ao' s.n s.cap' s.off a b W (by omega) ha0 ha1 hin).mono ?_
      rintro e w' ⟨rfl, q⟩
      exact ⟨_, rfl, World.ownsRow_nil _ _ _ _, fun b e => by simp [Value.ownBlock] at e, q⟩
    · refine (numbers32_out s.ao s.n s.cap s.off (qOf c s.who) a b W hb1 hin).mono ?_
      rintro e w' ⟨rfl, q⟩
      refine ⟨_, rfl, World.ownsRow_nil _ _ _ _, fun b e => by simp [Value.ownBlock] at e, ?_⟩
      rw [if_neg (by omega)]
      exact wat_same hw hW q
theorem numw8 (c : Cn) (g : Gh) (k : Nat) (a b : Int) (s : Sn) (w : World) (h : Inv c w g) (ok : Ok c g k) (hk : k ≤ 50000000) (hs : SnOk c s) (ha0 : -9223372036854775808 ≤ a) (ha1 : a ≤ 9223372036854775807) (hb1 : b ≤ 9223372036854775807) :
    Calls Try.prog 46 #[.pointer (some ⟨c.m, 0, none⟩), seenV s.ao s.n s.cap s.off (qOf c s.who) s.ao' s.n s.cap' s.off s.who, .int .i64 3, .int .i64 a, .int .i64 b] w (Stp c g k w) := by
  have hw := hs.who
  have hle := hs.v.le
  have hN := ok.N
  have hlb : ∀ x ∈ lOf g s, 0 ≤ x ∧ x < 256 := fun x hx => ok.byte x (List.mem_of_mem_drop (List.mem_of_mem_take hx))
  by_cases hin : 0 ≤ a ∧ 0 ≤ b ∧ a + b * 8 ≤ s.n
  · obtain ⟨a', rfl⟩ : ∃ a' : Nat, a = a' := ⟨a.toNat, by omega⟩
    obtain ⟨b', rfl⟩ : ∃ b' : Nat, b = b' := ⟨b.toNat, by omega⟩
    refine numbers_gen8 c g k s.ao s.ao' s.n s.cap s.off s.cap' s.who a' b' a' b' (nums (lOf g s) a' b' 8) 0 w h ok (by omega) hs (nums_len _ _ _ _) (by omega) (fun j hj => num_wrap _ hlb _ _ _ _ (by omega) hj) (fun _ => ⟨rfl, rfl, by omega⟩) (fun W hW => ?_) (fun W g' hW ok' hL => ?_)
    · exact rnumbers8_in s.ao' s.n s.cap' s.off (lOf g s) a' b' W (by omega) (by omega) (by omega) (Inv.ref (hW.cm .all) ok hs)
    · have hv := hW.view ok' hs (by omega)
      rw [lOf_eq s hL] at hv
      refine (numbers64_in s.ao s.n s.cap s.off (qOf c s.who) (gqOf g' s.who) (wOf g' s.who) (lOf g s) a' b' W (by omega) (by omega) hv).mono ?_
      rintro e w' ⟨gg, rfl, h1, h2, h3⟩
      refine ⟨_, rfl, own_ofRow h2 (by simp [nums]) (by omega), fun b e => by simp [Value.ownBlock] at e; omega, ?_⟩
      rw [if_pos rfl]
      exact h3
  · refine numbers_gen8 c g k s.ao s.ao' s.n s.cap s.off s.cap' s.who a b 0 0 [] 2 w h ok (by omega) hs rfl (by omega) (fun j hj => by omega) (fun e => by simp at e) (fun W hW => ?_) (fun W g' hW ok' hL => ?_)
    · refine (rnumbers8_out s.ao' s.n s.cap' s.off a b W (by omega) ha0 ha1 hin).mono ?_
      rintro e w' ⟨rfl, q⟩
      exact ⟨_, rfl, World.ownsRow_nil _ _ _ _, fun b e => by simp [Value.ownBlock] at e, q⟩
    · refine (numbers64_out s.ao s.n s.cap s.off (qOf c s.who) a b W hb1 hin).mono ?_
      rintro e w' ⟨rfl, q⟩
      refine ⟨_, rfl, World.ownsRow_nil _ _ _ _, fun b e => by simp [Value.ownBlock] at e, ?_⟩
      rw [if_neg (by omega)]
      exact wat_same hw hW q
theorem st_num (c : Cn) (g : Gh) (k : Nat) (o a b : Int) (bl cl i : Nat) (s : Sn) (w : World) (h : Inv c w g) (ok : Ok c g k) (hk : k ≤ 50000000) (A : At c g w o bl cl i s) (ho0 : -9223372036854775808 ≤ o) (ho1 : o ≤ 9223372036854775807) (ha0 : -9223372036854775808 ≤ a) (ha1 : a ≤ 9223372036854775807) (hb0 : -9223372036854775808 ≤ b) (hb1 : b ≤ 9223372036854775807) :
    Calls Try.prog 9 #[.pointer (some ⟨c.m, 0, none⟩), opV 7 o a b] w (Stp c g k w) := by
  have hp := pickV_bd o 4 (by omega)
  obtain ⟨w4, h4⟩ : ∃ w4 : Nat, pickV o 4 = w4 := ⟨(pickV o 4).toNat, by omega⟩
  have hw4 : w4 = 0 ∨ w4 = 1 ∨ w4 = 2 ∨ w4 = 3 := by omega
  refine (step_num c.m bl g.S.length cl i o a b s.ao s.n s.cap s.off (qOf c s.who) s.ao' s.n s.cap' s.off s.who w4 (fun W w' => ∃ g', Go c NoF W g w' g' ∧ Ok c g' (k + 4)) w ho0 ho1 ok.s0 ok.s1 A.pick A.cell A.seen h4 (fun W kW => ?_) (fun W w' bb x kW t hbb hx => ?_)).mono ?_
  · have hI := h.idle kW
    rcases hw4 with rfl | rfl | rfl | rfl
    · exact numw1 c g k a b s W hI ok hk A.ok ha0 ha1 hb1
    · exact numw2 c g k a b s W hI ok hk A.ok ha0 ha1 hb1
    · exact numw4 c g k a b s W hI ok hk A.ok ha0 ha1 hb1
    · exact numw8 c g k a b s W hI ok hk A.ok ha0 ha1 hb1
  · obtain ⟨g', q1, _⟩ := t
    exact (q1.box hx (h.out hbb)).1
  · rintro e w' ⟨rfl, W, kW, g', q1, q2⟩
    exact ⟨rfl, g', (h.rest0 kW).trans q1 (fun _ f => f.elim), q2⟩
theorem st_watch (c : Cn) (g : Gh) (k : Nat) (o a b : Int) (bl cl i : Nat) (s : Sn) (w : World) (h : Inv c w g) (ok : Ok c g k) (hk : k ≤ 50000000) (A : At c g w o bl cl i s) (ho0 : -9223372036854775808 ≤ o) (ho1 : o ≤ 9223372036854775807) (ha0 : -9223372036854775808 ≤ a) (ha1 : a ≤ 9223372036854775807) (hb0 : -9223372036854775808 ≤ b) (hb1 : b ≤ 9223372036854775807) :
    Calls Try.prog 9 #[.pointer (some ⟨c.m, 0, none⟩), opV 8 o a b] w (Stp c g k w) := by
  have hs := A.ok
  have hc2 : (csOf c g)[2]? = some (.slice (some ⟨bl, 0, none⟩) g.S.length cl) := by rw [← A.v2]; rfl
  have hown : w.ownsRow 0 93 6 (.slice (some ⟨bl, 0, none⟩) g.S.length cl) g.S.length (g.S.flatMap (snC c)) := by rw [← A.v2]; exact h.cm .seen
  by_cases hroom : g.S.length < 40
  · have fin : ∀ (wh : Nat), wh ≤ 2 → ∀ e w', (e = .returned (.bool true) ∧ RowDone w w' c.m 2 93 6 (csOf c g) (.slice (some ⟨bl, 0, none⟩) g.S.length cl) (g.S.length + 1) (g.S.flatMap (snC c) ++ [.slice s.ao s.n s.cap, .int .i64 s.off, .pointer ((qOf c wh).map fun b => ⟨b, 0, none⟩), .slice s.ao' s.n s.cap', .int .i64 s.off, .int .i64 (wh : Int)])) → Stp c g k w e w' := fun wh hwh e w' q => by
      obtain ⟨rfl, rd⟩ := q
      rw [← A.v2] at rd
      obtain ⟨v', hg⟩ := h.join (s := ⟨s.ao, s.n, s.cap, s.off, s.ao', s.cap', wh⟩) rd
      exact ⟨rfl, _, hg, (ok.join (s := ⟨s.ao, s.n, s.cap, s.off, s.ao', s.cap', wh⟩) ⟨hs.v, hs.r, hwh⟩ hroom).mono (by omega)⟩
    by_cases ha : 0 ≤ a
    · have hp := pickV_bd a 2 (by omega)
      obtain ⟨wh, hwh⟩ : ∃ wh : Nat, 1 + pickV a 2 = wh := ⟨(1 + pickV a 2).toNat, by omega⟩
      have hw12 : wh = 1 ∨ wh = 2 := by omega
      have hcw : (csOf c g)[3 + wh]? = some (.pointer ((qOf c wh).map fun b => ⟨b, 0, none⟩)) := by rcases hw12 with rfl | rfl <;> rfl
      exact (step_watch_p c.m bl g.S.length cl i o a b s.ao s.n s.cap s.off (qOf c s.who) s.ao' s.n s.cap' s.off s.who wh (qOf c wh) (csOf c g) (g.S.flatMap (snC c)) w ho0 ho1 ok.s0 ok.s1 A.pick A.cell A.seen ha ha1 hwh (by omega) h.room hc2 hcw hown hroom).mono (fin wh (by omega))
    · exact (step_watch_n c.m bl g.S.length cl i o a b s.ao s.n s.cap s.off (qOf c s.who) s.ao' s.n s.cap' s.off s.who (qOf c 0) (csOf c g) (g.S.flatMap (snC c)) w ho0 ho1 ok.s0 ok.s1 A.pick A.cell A.seen (by omega) h.room hc2 rfl hown hroom).mono (fin 0 (by omega))
  · by_cases ha : 0 ≤ a
    · exact (step_wfull_p c.m bl g.S.length cl i o a b s.ao s.n s.cap s.off (qOf c s.who) s.ao' s.n s.cap' s.off s.who w ho0 ho1 ok.s0 ok.s1 A.pick A.cell A.seen ha ha1 (by omega)).mono fun e w' q => Stp.idle h ok q
    · exact (step_wfull_n c.m bl g.S.length cl i o a b s.ao s.n s.cap s.off (qOf c s.who) s.ao' s.n s.cap' s.off s.who w ho0 ho1 ok.s0 ok.s1 A.pick A.cell A.seen (by omega) (by omega)).mono fun e w' q => Stp.idle h ok q
theorem wrap8_bd (b : Int) : 0 ≤ IntKind.u8.wrap b ∧ IntKind.u8.wrap b < 256 := by
  rw [IntKind.wrap_u8]
  omega
theorem st_write (c : Cn) (g : Gh) (k : Nat) (o a b : Int) (bl cl i : Nat) (s : Sn) (w : World) (h : Inv c w g) (ok : Ok c g k) (hk : k ≤ 50000000) (A : At c g w o bl cl i s) (ho0 : -9223372036854775808 ≤ o) (ho1 : o ≤ 9223372036854775807) (ha0 : -9223372036854775808 ≤ a) (ha1 : a ≤ 9223372036854775807) (hb0 : -9223372036854775808 ≤ b) (hb1 : b ≤ 9223372036854775807) :
    Calls Try.prog 9 #[.pointer (some ⟨c.m, 0, none⟩), opV 9 o a b] w (Stp c g k w) := by
  have c1 : w.cell? ⟨c.m, 1, none⟩ = some (.int .i64 c.N) := h.cell rfl
  by_cases hN0 : 0 < c.N
  · have hp := pickV_bd a c.N (by omega)
    obtain ⟨jj, hjj⟩ : ∃ jj : Nat, pickV a c.N = jj := ⟨(pickV a c.N).toNat, by omega⟩
    have hA : w.heap[c.A]? = some (.cells (byteRow g.L) 5 (0, 0)) := h.cm .all
    have hjl : jj < g.L.length := by have := ok.len; omega
    have hu : w.cell? ⟨c.A, jj, none⟩ = some (.int .u8 g.L[jj]) := by
      rw [cell_of_row w c.A jj _ _ _ hA]
      simp [byteRow, hjl]
    refine (step_write c.m bl g.S.length cl i o a b s.ao s.n s.cap s.off (qOf c s.who) s.ao' s.n s.cap' s.off s.who c.A (c.N + 9) (c.N + 9) c.N jj w ho0 ho1 ok.s0 ok.s1 A.pick A.cell A.seen (h.cell rfl) c1 hN0 (by omega) (by have := ok.N; omega) ha0 ha1 hjj _ hu (frozen_of_row w c.A jj _ _ hA) (h.lt .all _ rfl) (fun e => by
      have : Ix.all = Ix.room := h.ap _ _ c.m (by rw [← e]; rfl) rfl
      cases this)).mono ?_
    rintro e w' ⟨rfl, W, kW, rfl⟩
    refine ⟨rfl, _, h.write kW, ?_⟩
    exact { ok.mono (show k ≤ k + 4 by omega) with
      len := by show (g.L.set jj _).length = _; rw [List.length_set]; exact ok.len
      byte := fun x hx => by
        rcases List.mem_or_eq_of_mem_set hx with h1 | h1
        · exact ok.byte x h1
        · rw [h1]; exact wrap8_bd b
      tail := fun j h1 h2 => by
        show (g.L.set jj _)[j]? = _
        rw [List.getElem?_set_ne (by omega)]
        exact ok.tail j h1 h2 }
  · have e0 : c.N = 0 := by omega
    rw [e0] at c1
    exact (step_write0 c.m bl g.S.length cl i o a b s.ao s.n s.cap s.off (qOf c s.who) s.ao' s.n s.cap' s.off s.who w ho0 ho1 ok.s0 ok.s1 A.pick A.cell A.seen c1).mono fun e w' q => Stp.idle h ok q
theorem rd_at {w : World} {v : Value} {rs : List (Int × Int)} {ao : Option Addr} {cap : Nat} (e : v = .slice ao rs.length cap) (h : w.ownsRow 0 50 2 v rs.length (readCells rs)) : ReadsAt w ao rs.length rs := fun h0 => by
  subst e
  obtain ⟨gb, cc, e2⟩ := own_some h h0
  simp only [Value.slice.injEq] at e2
  obtain ⟨rfl, -, rfl⟩ := e2
  refine ⟨gb, 0, rfl, fun k hk => ?_⟩
  have e1 : (readCells rs)[k * 2]? = some (.int .i64 (rs.getD k (0, 0)).1) ∧ (readCells rs)[k * 2 + 1]? = some (.int .i64 (rs.getD k (0, 0)).2) := by
    clear h h0
    induction rs generalizing k with
    | nil => simp at hk
    | cons x r ih =>
      cases k with
      | zero => exact ⟨rfl, rfl⟩
      | succ k =>
        have := ih k (by simpa using hk)
        have e3 : readCells (x :: r) = .int .i64 x.1 :: .int .i64 x.2 :: readCells r := rfl
        rw [e3, show (k + 1) * 2 = k * 2 + 2 by omega]
        simpa using this
  have h1 := h.cells (g := gb) rfl _ _ e1.1
  have h2 := h.cells (g := gb) rfl _ _ e1.2
  rw [add_lit0] at h1 h2
  simpa using ⟨h1, h2⟩
theorem watches_inv (c : Cn) (g : Gh) (k : Nat) (w : World) (h : Inv c w g) (ok : Ok c g k) (hk : k ≤ 100000000) : Calls Try.prog 11 #[.pointer (some ⟨c.m, 0, none⟩)] w fun e w' => e = .returned (.bool true) ∧ Keeps w w' (fun _ => False) := by
  have t1 : w.ownsRow 0 50 2 g.v7 g.t1.length (readCells g.t1) := h.cm .t1
  have t2 : w.ownsRow 0 50 2 g.v8 g.t2.length (readCells g.t2) := h.cm .t2
  obtain ⟨o1, p1, e1⟩ := own2_form t1
  obtain ⟨o2, p2, e2⟩ := own2_form t2
  have w1 : WatchAt w c.q1 g.gq1 g.w1 := h.cm .w1
  have w2 : WatchAt w c.q2 g.gq2 g.w2 := h.cm .w2
  rw [ok.e1] at w1
  rw [ok.e2] at w2
  have d1 : w.cell? ⟨c.m, 7, none⟩ = some g.v7 := h.cell rfl
  have d2 : w.cell? ⟨c.m, 8, none⟩ = some g.v8 := h.cell rfl
  have two : ∀ {P : Nat → Prop}, P 1 → P 2 → ∀ i, 1 ≤ i → i < 3 → P i := fun a b i h1 h2 => by
    have : i = 1 ∨ i = 2 := by omega
    rcases this with rfl | rfl
    · exact a
    · exact b
  refine watches_any c.m (fun i => if i = 1 then c.q1 else c.q2) (fun i => if i = 1 then g.gq1 else g.gq2) (fun i => if i = 1 then g.t1 else g.t2) (fun i => if i = 1 then o1 else o2) (fun i => if i = 1 then p1 else p2) w (two ?_ ?_) (two ?_ ?_) (two ?_ ?_) (two ?_ ?_) (two ?_ ?_)
  · exact h.cell rfl
  · exact h.cell rfl
  · show w.cell? ⟨c.m, 7, none⟩ = some (.slice o1 g.t1.length p1)
    rw [← e1]; exact d1
  · show w.cell? ⟨c.m, 8, none⟩ = some (.slice o2 g.t2.length p2)
    rw [← e2]; exact d2
  · exact w1
  · exact w2
  · exact rd_at e1 t1
  · exact rd_at e2 t2
  · show g.t1.length ≤ 1000000000000
    have := ok.b1; omega
  · show g.t2.length ≤ 1000000000000
    have := ok.b2; omega
theorem st_reads (c : Cn) (g : Gh) (k : Nat) (o a b : Int) (bl cl i : Nat) (s : Sn) (w : World) (h : Inv c w g) (ok : Ok c g k) (hk : k ≤ 50000000) (A : At c g w o bl cl i s) (ho0 : -9223372036854775808 ≤ o) (ho1 : o ≤ 9223372036854775807) (ha0 : -9223372036854775808 ≤ a) (ha1 : a ≤ 9223372036854775807) (hb0 : -9223372036854775808 ≤ b) (hb1 : b ≤ 9223372036854775807) :
    Calls Try.prog 9 #[.pointer (some ⟨c.m, 0, none⟩), opV 10 o a b] w (Stp c g k w) := by
  refine (step_reads c.m bl g.S.length cl i o a b s.ao s.n s.cap s.off (qOf c s.who) s.ao' s.n s.cap' s.off s.who (fun W w' => Keeps W w' (fun _ => False)) w ho0 ho1 ok.s0 ok.s1 A.pick A.cell A.seen (fun W kW => watches_inv c g k W (h.idle kW) ok (by omega))).mono ?_
  rintro e w' ⟨rfl, W, kW, q⟩
  exact Stp.idle h ok ⟨rfl, kW.trans q fun _ _ e => e⟩
theorem step_inv (c : Cn) (g : Gh) (k : Nat) (kk o a b : Int) (w : World) (h : Inv c w g) (ok : Ok c g k) (hk : k ≤ 50000000) (ho0 : -9223372036854775808 ≤ o) (ho1 : o ≤ 9223372036854775807) (ha0 : -9223372036854775808 ≤ a) (ha1 : a ≤ 9223372036854775807) (hb0 : -9223372036854775808 ≤ b) (hb1 : b ≤ 9223372036854775807) :
    Calls Try.prog 9 #[.pointer (some ⟨c.m, 0, none⟩), opV kk o a b] w (Stp c g k w) := by
  obtain ⟨bl, cl, i, s, A⟩ := at_any o h ok
  by_cases h1 : 1 ≤ kk ∧ kk ≤ 10
  · have : kk = 1 ∨ kk = 2 ∨ kk = 3 ∨ kk = 4 ∨ kk = 5 ∨ kk = 6 ∨ kk = 7 ∨ kk = 8 ∨ kk = 9 ∨ kk = 10 := by omega
    rcases this with rfl | rfl | rfl | rfl | rfl | rfl | rfl | rfl | rfl | rfl
    · exact st_part c g k o a b bl cl i s w h ok hk A ho0 ho1 ha0 ha1 hb0 hb1
    · exact st_byte c g k o a b bl cl i s w h ok hk A ho0 ho1 ha0 ha1 hb0 hb1
    · exact st_load c g k o a b bl cl i s w h ok hk A ho0 ho1 ha0 ha1 hb0 hb1
    · exact st_signed c g k o a b bl cl i s w h ok hk A ho0 ho1 ha0 ha1 hb0 hb1
    · exact st_text c g k o a b bl cl i s w h ok hk A ho0 ho1 ha0 ha1 hb0 hb1
    · exact st_raw c g k o a b bl cl i s w h ok hk A ho0 ho1 ha0 ha1 hb0 hb1
    · exact st_num c g k o a b bl cl i s w h ok hk A ho0 ho1 ha0 ha1 hb0 hb1
    · exact st_watch c g k o a b bl cl i s w h ok hk A ho0 ho1 ha0 ha1 hb0 hb1
    · exact st_write c g k o a b bl cl i s w h ok hk A ho0 ho1 ha0 ha1 hb0 hb1
    · exact st_reads c g k o a b bl cl i s w h ok hk A ho0 ho1 ha0 ha1 hb0 hb1
  · exact (step_other c.m bl g.S.length cl i o a b s.ao s.n s.cap s.off (qOf c s.who) s.ao' s.n s.cap' s.off s.who kk w ho0 ho1 ok.s0 ok.s1 A.pick A.cell A.seen (fun j h2 h3 => by simp; omega)).mono fun e w' q => Stp.idle h ok q
theorem holds_inv (c : Cn) (g : Gh) (k : Nat) (w : World) (h : Inv c w g) (ok : Ok c g k) (hk : k ≤ 100000000) : Calls Try.prog 10 #[.pointer (some ⟨c.m, 0, none⟩)] w fun e w' => e = .returned (.bool true) ∧ Keeps w w' (fun _ => False) := by
  have t1 : w.ownsRow 0 22 1 g.v9 g.D9.length (g.D9.map rwV) := h.cm .r9
  have t2 : w.ownsRow 0 91 2 g.v10 g.D10.length (g.D10.flatMap rfC) := h.cm .r10
  rw [← ok.d] at t2
  obtain ⟨o1, p1, e1⟩ := ownN_form t1
  obtain ⟨o2, p2, e2⟩ := ownN_form t2
  have d1 : w.cell? ⟨c.m, 9, none⟩ = some (.slice o1 g.D9.length p1) := by rw [← e1]; exact h.cell rfl
  have d2 : w.cell? ⟨c.m, 10, none⟩ = some (.slice o2 g.D9.length p2) := by rw [← e2]; exact h.cell rfl
  have hA : w.heap[c.A]? = some (.cells (byteRow g.L) 5 (0, 0)) := h.cm .all
  have rf : ∀ (D : List Sn) (j : Nat) (s : Sn), D[j]? = some s → (D.flatMap rfC)[j * 2]? = some (.slice s.ao' s.n s.cap') := by
    intro D
    induction D with
    | nil => intro j s hs; simp at hs
    | cons x D ih =>
      intro j s hs
      cases j with
      | zero => simp at hs; subst hs; rfl
      | succ j =>
        have := ih j s (by simpa using hs)
        rw [List.flatMap_cons, show (j + 1) * 2 = j * 2 + 2 by omega]
        simpa [rfC] using this
  have b1 : ∃ b1, 0 < g.D9.length → o1 = some ⟨b1, 0, none⟩ := by
    by_cases h0 : 0 < g.D9.length
    · obtain ⟨gb, cc, e⟩ := own_some t1 h0
      rw [e1] at e
      simp only [Value.slice.injEq] at e
      exact ⟨gb, fun _ => e.1⟩
    · exact ⟨0, fun q => absurd q h0⟩
  have b2 : ∃ b2, 0 < g.D9.length → o2 = some ⟨b2, 0, none⟩ := by
    by_cases h0 : 0 < g.D9.length
    · obtain ⟨gb, cc, e⟩ := own_some t2 h0
      rw [e2] at e
      simp only [Value.slice.injEq] at e
      exact ⟨gb, fun _ => e.1⟩
    · exact ⟨0, fun q => absurd q h0⟩
  obtain ⟨b1, hb1⟩ := b1
  obtain ⟨b2, hb2⟩ := b2
  refine (holds_any o1 o2 c.m b1 b2 g.D9.length p1 p2 c.A c.N (c.N + 9) w (by have := ok.b9; omega) hb1 hb2 (by have := ok.N; omega) d1 d2 (fun j hj => ?_) (h.cell rfl) (h.cell rfl) (fun j h1 h2 => ?_)).mono ?_
  · have hs := ok.d9 g.D9[j] (List.getElem_mem hj)
    have hgj : g.D9[j]? = some g.D9[j] := List.getElem?_eq_getElem hj
    have h0 : 0 < g.D9.length := by omega
    have q1 := hb1 h0
    have q2 := hb2 h0
    rw [e1, q1] at t1
    rw [e2, q2] at t2
    have x1 := t1.cells (g := b1) rfl j (rwV g.D9[j]) (by rw [List.getElem?_map, hgj]; rfl)
    have x2 := t2.cells (g := b2) rfl (j * 2) _ (rf g.D9 j _ hgj)
    rw [add_lit0] at x1 x2
    have hle := hs.v.le
    have hN := ok.N
    exact ⟨_, _, _, _, _, _, x1, x2, by omega, hs.v.has w g.L hA (by rw [ok.len]; omega), hs.r.has w g.L hA (by rw [ok.len]; omega)⟩
  · rw [cell_of_row w c.A j _ _ _ hA]
    have := ok.tail j h1 h2
    simp [byteRow, this]
  · rintro e w' ⟨rfl, q, rfl⟩
    exact ⟨rfl, (Keeps.refl _ _).drewN q⟩
theorem apart_inv (c : Cn) (g : Gh) (k : Nat) (w : World) (h : Inv c w g) (ok : Ok c g k) (hk : k ≤ 100000000) (B : Nat) (hB : ∀ i b, ft c g i b → B ≤ b) (hBw : B ≤ w.heap.size) : Calls Try.prog 12 #[.pointer (some ⟨c.m, 0, none⟩)] w fun e w' => e = .returned (.bool true) ∧ Keeps w w' (fun b => B ≤ b) := by
  have n1 : NL 0 w 22 5 .u8 mk1 g.v11 g.N1 g.R1 g.l1 := h.cm .n1
  have n2 : NL 0 w 103 104 .u16 mk2 g.v12 g.N2 g.R2 g.l2 := h.cm .n2
  have n4 : NL 0 w 105 106 .u32 mk4 g.v13 g.N4 g.R4 g.l4 := h.cm .n4
  have n8 : NL 0 w 107 46 .u64 mk8 g.v14 g.N8 g.R8 g.l8 := h.cm .n8
  obtain ⟨o1, p1, e1⟩ := ownN_form n1.outer
  obtain ⟨o2, p2, e2⟩ := ownN_form n2.outer
  obtain ⟨o4, p4, e4⟩ := ownN_form n4.outer
  obtain ⟨o8, p8, e8⟩ := ownN_form n8.outer
  have f1 : (csOf c g)[11]? = some (.slice o1 g.N1 p1) := by rw [← e1]; rfl
  have f2 : (csOf c g)[12]? = some (.slice o2 g.N2 p2) := by rw [← e2]; rfl
  have f4 : (csOf c g)[13]? = some (.slice o4 g.N4 p4) := by rw [← e4]; rfl
  have f8 : (csOf c g)[14]? = some (.slice o8 g.N8 p8) := by rw [← e8]; rfl
  have m1 : NL B w 22 5 .u8 mk1 (.slice o1 g.N1 p1) g.N1 g.R1 g.l1 := by rw [← e1]; exact ⟨n1.outer, fun b e => hB .n1 b (.inl e), n1.inner, fun i hi b e => hB .n1 b (.inr ⟨i, hi, e⟩), n1.apart⟩
  have m2 : NL B w 103 104 .u16 mk2 (.slice o2 g.N2 p2) g.N2 g.R2 g.l2 := by rw [← e2]; exact ⟨n2.outer, fun b e => hB .n2 b (.inl e), n2.inner, fun i hi b e => hB .n2 b (.inr ⟨i, hi, e⟩), n2.apart⟩
  have m4 : NL B w 105 106 .u32 mk4 (.slice o4 g.N4 p4) g.N4 g.R4 g.l4 := by rw [← e4]; exact ⟨n4.outer, fun b e => hB .n4 b (.inl e), n4.inner, fun i hi b e => hB .n4 b (.inr ⟨i, hi, e⟩), n4.apart⟩
  have m8 : NL B w 107 46 .u64 mk8 (.slice o8 g.N8 p8) g.N8 g.R8 g.l8 := by rw [← e8]; exact ⟨n8.outer, fun b e => hB .n8 b (.inl e), n8.inner, fun i hi b e => hB .n8 b (.inr ⟨i, hi, e⟩), n8.apart⟩
  have k1 := ok.c1
  have k2 := ok.c2
  have k4 := ok.c4
  have k8 := ok.c8
  exact apart_any B c.m (csOf c g) mk1 mk2 mk4 mk8 o1 o2 o4 o8 p1 p2 p4 p8 g.N1 g.N2 g.N4 g.N8 g.R1 g.R2 g.R4 g.R8 g.l1 g.l2 g.l4 g.l8 w ⟨m1, m2, m4, m8, h.room, Keeps.refl _ _, hBw⟩ ⟨by omega, by omega, by omega, by omega⟩ f1 f2 f4 f8 (fun _ => rfl) (fun _ => rfl) (fun _ => rfl) (fun _ => rfl) (fun i hi => by have := ok.l1 i hi; omega) (fun i hi => by have := ok.l2 i hi; omega) (fun i hi => by have := ok.l4 i hi; omega) (fun i hi => by have := ok.l8 i hi; omega)
end Go.Proofs.Ytomlndoffoeaiaa.Kit
namespace Go.Proofs.Ytomlndoffoeaiaa.Kit
open Go.RowKit Go.Deep
set_option linter.unusedVariables false

/-- a step of a script in memory -/
structure RStep where
  kk : Int
  o : Int
  a : Int
  b : Int
def RStepAt (w : World) (b off : Nat) (s : RStep) : Prop :=
  w.cell? ⟨b, off, none⟩ = some (.int .i64 s.kk) ∧ w.cell? ⟨b, off + 1, none⟩ = some (.int .i64 s.o) ∧ w.cell? ⟨b, off + 2, none⟩ = some (.int .i64 s.a) ∧ w.cell? ⟨b, off + 3, none⟩ = some (.int .i64 s.b) ∧
  (-9223372036854775808 ≤ s.o ∧ s.o ≤ 9223372036854775807) ∧ (-9223372036854775808 ≤ s.a ∧ s.a ≤ 9223372036854775807) ∧ (-9223372036854775808 ≤ s.b ∧ s.b ≤ 9223372036854775807)

set_option maxRecDepth 100000 in
set_option maxHeartbeats 4000000 in
theorem reads_walk (ao : Option Addr) (N cap : Nat) (l : List Int) (a1 : Option Addr) (sb so len cap1 : Nat) (ops : Nat → RStep) (w : World) (hb : BytesAt w ao N l) (hl : l.length = N) (hr : ∀ x ∈ l, 0 ≤ x ∧ x < 256) (hN : N ≤ 1048576)
    (hlen : len ≤ 1048576) (ha1 : 0 < len → a1 = some ⟨sb, so, none⟩ ∧ sb < w.heap.size) (hops : ∀ i, i < len → RStepAt w sb (so + i * 4) (ops i)) :
    Calls Try.prog 3 #[.slice ao N cap, .slice a1 len cap1] w fun e w' => e = .returned (.bool true) ∧ Below w.heap.size w w' := by
  have HBy := hidM hb
  have HLn := hidM hl
  have HRg := hidM hr
  have HA1 := hidM ha1
  have HOps := hidM hops
  clear hb hl hr ha1 hops
  go_enter Try.func3, Try.ntmps3
  go_wp2_with fail
  go_at_call 8
  refine Calls.mono (begun_inv ao N cap l w HBy.out HLn.out HRg.out hN) ?_
  rintro e W1 ⟨c, g, rfl, hI, hok, hkp, hft⟩
  have HI := hidM hI
  have HOk := hidM hok
  have HKp := hidM hkp
  have HFt := hidM hft
  clear hI hok hkp hft HBy HLn HRg
  go_wp2_with fail
  go_loopw [7] (fun p wr => ∃ j : Nat, j ≤ len ∧ p = .int .i64 (j : Int) ∧ ∃ g', Hid (Go c NoF W1 g wr g' ∧ Ok c g' (4 * j + 1))) (fun p _ => len - (intOf p).toNat)
  case atStart => exact ⟨0, by omega, rfl, g, HI.out.rest0 (Keeps.refl _ _), HOk.out⟩
  case round =>
    obtain ⟨j, hj, rfl, g', HX⟩ := hrel
    obtain ⟨V, rfl⟩ : ∃ V, V = wr := ⟨_, rfl⟩
    have HKV := hidM (Go.keeps HKp.out HX.out.1 HFt.out)
    by_cases hjl : j < len
    · have hjI : (j : Int) < (len : Int) := by omega
      obtain ⟨rfl, -⟩ := HA1.out (by omega)
      obtain ⟨f0, f1, f2, f3, ho, ha, hb⟩ := HOps.out j hjl
      obtain ⟨kk, o, a, b, hs⟩ : ∃ kk o a b, ops j = ⟨kk, o, a, b⟩ := ⟨_, _, _, _, rfl⟩
      rw [hs] at f0 f1 f2 f3 ho ha hb
      replace f0 := HKV.out.cell' f0 id
      replace f1 := HKV.out.cell' f1 id
      replace f2 := HKV.out.cell' f2 id
      replace f3 := HKV.out.cell' f3 id
      simp only at f0 f1 f2 f3 ho ha hb
      obtain ⟨ho0, ho1⟩ := ho
      obtain ⟨ha0, ha1⟩ := ha
      obtain ⟨hb0, hb1⟩ := hb
      clear hs
      go_wp2_with fail
      go_at_call 9
      refine Calls.mono (step_inv c g' (4 * j + 1) kk o a b V HX.out.1.inv HX.out.2 (by omega) ho0 ho1 ha0 ha1 hb0 hb1) ?_
      rintro e V2 ⟨rfl, g2, q1, q2⟩
      have HG2 := hidM (HX.out.1.trans q1 (fun _ f => f.elim))
      have HO2 := hidM q2
      clear q1 q2 f0 f1 f2 f3
      go_wp2_with fail
      go_at_call 10
      refine Calls.mono (holds_inv c g2 _ V2 HG2.out.inv HO2.out (by omega)) ?_
      rintro e V3 ⟨rfl, q⟩
      have HG3 := hidM (HG2.out.trans (HG2.out.inv.rest0 q) (fun _ f => f.elim))
      clear q
      go_wp2_with fail
      exact ⟨⟨j + 1, by omega, by simp, g2, HG3.out, HO2.out.mono (by omega)⟩, by simp [intOf]; omega⟩
    · have hjl' : ¬ ((j : Int) < (len : Int)) := by omega
      go_wp2_with fail
      go_at_call 11
      refine Calls.mono (watches_inv c g' _ V HX.out.1.inv HX.out.2 (by omega)) ?_
      rintro e V2 ⟨rfl, q⟩
      have HG2 := hidM (HX.out.1.trans (HX.out.1.inv.rest0 q) (fun _ f => f.elim))
      clear q
      have HK2 := hidM (Go.keeps HKp.out HG2.out HFt.out)
      have HF2 : Hid (∀ i b, ft c g' i b → w.heap.size ≤ b) := fun i b hb => by
        rcases HG2.out.new i b hb with h1 | h1 | h1
        · exact HFt.out i b h1
        · exact Nat.le_trans HKp.out.size h1
        · exact h1.elim
      go_wp2_with fail
      go_at_call 12
      refine Calls.mono (apart_inv c g' _ V2 HG2.out.inv HX.out.2 (by omega) w.heap.size HF2.out HK2.out.size) ?_
      rintro e V3 ⟨rfl, q⟩
      have HK3 : Hid (Keeps w V3 (fun b => w.heap.size ≤ b)) := (HK2.out.mono fun _ _ f => f.elim).trans q fun _ _ e => e
      clear q
      go_wp2_with fail
      go_ret
      exact ⟨rfl, HK3.out.below (fun k _ h => h) (Nat.le_refl _)⟩
end Go.Proofs.Ytomlndoffoeaiaa.Kit
