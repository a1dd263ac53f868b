import Derived.Test.YtkodgneneiledaaGreatDoorUD
import Derived.Lib.Bytealg
namespace Go.Proofs.YtkodgneneiledaaGreatDoor.Kit
open Go.RowKit Go.Shelf Go.Deep
set_option linter.unusedVariables false

/-! ### next 64 -/
theorem next_ok {s : ByteArray} {a : Nat} (g : List Nat) (h : a < s.size) : nextP s.data.toList (a, g) = .ok (s[a]'h, (a + 1, g)) := by
  have e : s.data.toList[a]? = some (s[a]'h) := by rw [Array.getElem?_toList]; exact Array.getElem?_eq_getElem h
  unfold nextP; rw [e]
theorem next_end {s : ByteArray} (g : List Nat) : nextP s.data.toList (s.size, g) = .error s.size := by
  have e : s.data.toList[s.size]? = none := List.getElem?_eq_none (by simp)
  unfold nextP; rw [e]
def uQ : UInt8 → Value → Prop := fun c v => v = .int .u8 (c.toNat : Int)
set_option maxRecDepth 100000 in
set_option maxHeartbeats 4000000 in
theorem next_any (p : Nat) (s : ByteArray) : PrC p s 108 #[.pointer (some ⟨p, 0, none⟩)] (nextP s.data.toList) uQ := by
  intro no W a g hR
  have hl := hR.len
  have ha := hR.pos
  have HR := hidP hR
  obtain ⟨d0, d1⟩ := hR.cells
  clear hR
  by_cases h : a < s.size
  · rw [next_ok g h]
    have hne : ((a : Int) == (s.size : Int)) = false := beq_eq_false_iff_ne.2 (by omega)
    have hsk : IntKind.i64.wrap ((a : Int) + 1) = ((a + 1 : Nat) : Int) := by rw [IntKind.wrap_i64]; omega
    have hsb : IntKind.i64.wrap (((a + 1 : Nat) : Int) - 1) = (a : Int) := by rw [IntKind.wrap_i64]; omega
    go_enter Tryz.func108, Tryz.ntmps108
    go_wp2_with fail
    go_region
    have HG : Hid (Gr W W.drew) := (Keeps.refl W (fun _ => False)).drew
    have HR1 := hidP (HR.out.gr HG.out)
    clear d0 d1
    generalize W.drew = u at HG HR1 ⊢
    obtain ⟨d0, d1⟩ := HR1.out.cells
    have z1 := HR1.out.frz
    have HR2 : Hid (TAt (u.setCell ⟨p, 1, none⟩ (.int .i64 ((a : Int) + 1))) p s (a + 1) no) := HR1.out.set (a' := a + 1) (by omega)
    have HK : Hid (KpR W (u.setCell ⟨p, 1, none⟩ (.int .i64 ((a : Int) + 1))) p) := KpR.put (KpR.gr (Keeps.refl W (fun z => z = p)) HG.out) _
    go_wp2_with fail
    clear d0 d1 z1
    generalize u.setCell ⟨p, 1, none⟩ (.int .i64 ((a : Int) + 1)) = v at HR2 HK ⊢
    obtain ⟨d0, d1⟩ := HR2.out.cells
    go_region
    go_wp2_with fail
    go_ret
    exact PrQ.ok (HK.out.gr (Keeps.refl v (fun _ => False)).drew) rfl rfl (HR2.out.gr (Keeps.refl v (fun _ => False)).drew)
  · obtain rfl : a = s.size := by omega
    rw [next_end g]
    go_enter Tryz.func108, Tryz.ntmps108
    go_wp2_with fail
    go_region
    go_wp2_with fail
    exact ⟨rfl, PrQ.err (KpR.gr (Keeps.refl W (fun z => z = p)) (Keeps.refl W (fun _ => False)).drew) rfl⟩
end Go.Proofs.YtkodgneneiledaaGreatDoor.Kit
namespace Go.Proofs.YtkodgneneiledaaGreatDoor.Kit
open Go.RowKit Go.Shelf Go.Deep
set_option linter.unusedVariables false
attribute [local go_sem] Lib.run_indexByteString

/-! ### digit 81 -/
def hexL : List UInt8 := [48, 49, 50, 51, 52, 53, 54, 55, 56, 57, 97, 98, 99, 100, 101, 102]
set_option maxRecDepth 100000 in
set_option maxHeartbeats 400000 in
theorem index_any (c : UInt8) (w : World) : Calls Tryz.prog 123 #[.string ⟨hexL.toArray⟩, .int .u8 (c.toNat : Int)] w fun e w' => e = .returned (.int .i64 (Lib.indexByte hexL c)) ∧ w' = w := by
  have r92 : (callFunc 134 #[.string ⟨hexL.toArray⟩, .int .u8 (c.toNat : Int)]).run Tryz.prog w = .ok (.value (.int .i64 (Lib.indexByte hexL c))) w := by
    rw [run_callFunc_extern Tryz.func134 (by kernel_rfl) (by kernel_rfl) (by kernel_rfl) (e := Extern.BytealgIndexByte.indexByte) (by kernel_rfl), Lib.run_indexByteString]
    rw [show ((c.toNat : Int)).toNat.toUInt8 = c from by simp]
    rfl
  go_enter Tryz.func123, Tryz.ntmps123
  generalize Lib.indexByte hexL c = z at r92 ⊢
  go_wp2
  go_ret
  exact ⟨rfl, rfl⟩
theorem index_hex (c : UInt8) : Lib.indexByte hexL c = match hexV c with | none => -1 | some n => (n : Int) := by
  have h : ∀ n : Fin 256, Lib.indexByte hexL (UInt8.ofNat n.val) = match hexV (UInt8.ofNat n.val) with | none => -1 | some n => (n : Int) := by decide +kernel
  have := h ⟨c.toNat, c.toNat_lt⟩
  rwa [show UInt8.ofNat c.toNat = c from by simp] at this
theorem hex_lt {c : UInt8} {n : Nat} (h : hexV c = some n) : n < 16 := by
  unfold hexV at h
  split at h
  · cases h; omega
  · split at h
    · cases h; omega
    · cases h
def hQ : Nat → Value → Prop := fun n v => v = .int .u8 (n : Int)
set_option maxRecDepth 100000 in
set_option maxHeartbeats 400000 in
theorem digit_any (p : Nat) (s : ByteArray) (o : Nat) : PrC p s 121 #[.pointer (some ⟨p, 0, none⟩), .int .i64 (o : Int)] (digitP s.data.toList o) hQ := by
  intro no W a g hR
  have HN := hidP (next_any p s no W a g hR)
  clear hR
  unfold digitP
  cases e : nextP s.data.toList (a, g) with
  | error q =>
    rw [e] at HN
    rw [Pr.bind_err e]
    clear e
    go_enter Tryz.func121, Tryz.ntmps121
    go_wp2_with (go_at_call 108; refine Calls.mono HN.out ?_; rintro e u ⟨hk, rfl⟩; have HK := hidP hk; clear hk)
    exact ⟨rfl, PrQ.err HK.out rfl⟩
  | ok x =>
    obtain ⟨c, b, g'⟩ := x
    rw [e] at HN
    rw [Pr.bind_ok e]
    clear e
    have HI := hidP (fun w => index_any c w)
    have HX := hidP (index_hex c)
    cases hv : hexV c with
    | none =>
      rw [hv] at HX
      rw [HX.out] at HI
      clear HX
      go_enter Tryz.func121, Tryz.ntmps121
      go_wp2_with (first | (go_at_call 108; refine Calls.mono HN.out ?_; rintro e u ⟨hk, hg, v, rfl, rfl, ht⟩; have HK := hidP hk; have HR := hidP ht; have HGG := hidP hg; clear hk ht hg) | (go_at_call 123; refine Calls.mono (HI.out _) ?_; rintro e u2 ⟨rfl, rfl⟩))
      exact ⟨rfl, PrQ.err HK.out (by simp)⟩
    | some n =>
      have hn := hex_lt hv
      rw [hv] at HX
      rw [HX.out] at HI
      clear HX
      have hw : IntKind.u8.wrap (n : Int) = (n : Int) := by rw [IntKind.wrap_u8]; omega
      go_enter Tryz.func121, Tryz.ntmps121
      go_wp2_with (first | (go_at_call 108; refine Calls.mono HN.out ?_; rintro e u ⟨hk, hg, v, rfl, rfl, ht⟩; have HK := hidP hk; have HR := hidP ht; have HGG := hidP hg; clear hk ht hg) | (go_at_call 123; refine Calls.mono (HI.out _) ?_; rintro e u2 ⟨rfl, rfl⟩))
      go_ret
      exact PrQ.ok HK.out (by simp [HGG.out]) rfl HR.out
end Go.Proofs.YtkodgneneiledaaGreatDoor.Kit
namespace Go.Proofs.YtkodgneneiledaaGreatDoor.Kit
open Go.RowKit Go.Shelf Go.Deep
set_option linter.unusedVariables false

/-! ### escape 65 -/
theorem digit_lt {T : List UInt8} {o n : Nat} {z z' : Ps} (h : digitP T o z = .ok (n, z')) : n < 16 := by
  unfold digitP at h
  cases e : nextP T z with
  | error q => rw [Pr.bind_err e] at h; cases h
  | ok x =>
    obtain ⟨c, y⟩ := x
    rw [Pr.bind_ok e] at h
    cases hv : hexV c with
    | none => rw [hv] at h; cases h
    | some m => rw [hv] at h; cases h; exact hex_lt hv
set_option maxRecDepth 100000 in
theorem bits_or : ∀ a b : Fin 16, bits BinOp.or IntKind.u8 ((a.val : Int) * 16) (b.val : Int) = ((UInt8.ofNat (16 * a.val + b.val)).toNat : Int) := by decide +kernel
set_option maxRecDepth 100000 in
set_option maxHeartbeats 400000 in
theorem escape_any (p : Nat) (s : ByteArray) (o : Nat) : PrC p s 109 #[.pointer (some ⟨p, 0, none⟩), .int .i64 (o : Int)] (escP s.data.toList o) uQ := by
  intro no W a g hR
  have HN := hidP (next_any p s no W a g hR)
  clear hR
  unfold escP
  cases e : nextP s.data.toList (a, g) with
  | error q =>
    rw [e] at HN
    rw [Pr.bind_err e]
    clear e
    go_enter Tryz.func109, Tryz.ntmps109
    go_wp2_with (go_at_call 108; refine Calls.mono HN.out ?_; rintro e u ⟨hk, rfl⟩; have HK := hidP hk; clear hk)
    exact ⟨rfl, PrQ.err HK.out rfl⟩
  | ok x =>
    obtain ⟨c, b, g'⟩ := x
    rw [e] at HN
    rw [Pr.bind_ok e]
    clear e
    have e34 : ((c.toNat : Int) == 34) = decide (c = 34) := by
      rw [Bool.eq_iff_iff]; simp only [beq_iff_eq, decide_eq_true_eq]
      exact ⟨fun h => UInt8.toNat_inj.1 (by show c.toNat = 34; omega), fun h => by rw [h]; rfl⟩
    have e92 : ((c.toNat : Int) == 92) = decide (c = 92) := by
      rw [Bool.eq_iff_iff]; simp only [beq_iff_eq, decide_eq_true_eq]
      exact ⟨fun h => UInt8.toNat_inj.1 (by show c.toNat = 92; omega), fun h => by rw [h]; rfl⟩
    have e120 : ((c.toNat : Int) == 120) = decide (c = 120) := by
      rw [Bool.eq_iff_iff]; simp only [beq_iff_eq, decide_eq_true_eq]
      exact ⟨fun h => UInt8.toNat_inj.1 (by show c.toNat = 120; omega), fun h => by rw [h]; rfl⟩
    by_cases h1 : c = 34 ∨ c = 92
    · rw [if_pos h1]
      by_cases h2 : c = 34
      · rw [decide_eq_true h2] at e34
        clear e92 e120 h1 h2
        go_enter Tryz.func109, Tryz.ntmps109
        go_wp2_with (first | (go_at_call 108; refine Calls.mono HN.out ?_; rintro e u ⟨hk, hg, v, rfl, rfl, ht⟩; have HK := hidP hk; have HR := hidP ht; have HGG := hidP hg; clear hk ht hg))
        go_ret
        exact PrQ.ok HK.out (by rw [HGG.out]; rfl) rfl HR.out
      · rw [decide_eq_false h2] at e34
        rw [decide_eq_true (h1.resolve_left h2)] at e92
        clear e120 h1 h2
        go_enter Tryz.func109, Tryz.ntmps109
        go_wp2_with (first | (go_at_call 108; refine Calls.mono HN.out ?_; rintro e u ⟨hk, hg, v, rfl, rfl, ht⟩; have HK := hidP hk; have HR := hidP ht; have HGG := hidP hg; clear hk ht hg))
        go_ret
        exact PrQ.ok HK.out (by rw [HGG.out]; rfl) rfl HR.out
    · rw [if_neg h1]
      rw [decide_eq_false (fun h => h1 (.inl h))] at e34
      rw [decide_eq_false (fun h => h1 (.inr h))] at e92
      clear h1
      by_cases h3 : c = 120
      · rw [if_pos h3]
        rw [decide_eq_true h3] at e120
        clear h3
        have HD := hidP (digit_any p s o)
        cases e1 : digitP s.data.toList o (b, g') with
        | error q =>
          rw [Pr.bind_err e1]
          have HE := hidP e1
          clear e1
          go_enter Tryz.func109, Tryz.ntmps109
          go_wp2_with (first | (go_at_call 108; refine Calls.mono HN.out ?_; rintro e u ⟨hk, hg, v, rfl, rfl, ht⟩; have HK := hidP hk; have HR := hidP ht; have HGG := hidP hg; clear hk ht hg) | (go_at_call 121; refine Calls.mono (HD.out no _ b g' HR.out) ?_; rw [HE.out]; rintro e u2 ⟨hk, rfl⟩; have HK2 := hidP hk; clear hk))
          exact ⟨rfl, PrQ.err (HK.out.trans HK2.out fun _ _ h => h) rfl⟩
        | ok x =>
          obtain ⟨n, b2, g2⟩ := x
          rw [Pr.bind_ok e1]
          have HE := hidP e1
          have hn := digit_lt e1
          clear e1
          cases e2 : digitP s.data.toList o (b2, g2) with
          | error q =>
            rw [Pr.bind_err e2]
            have HF := hidP e2
            clear e2
            go_enter Tryz.func109, Tryz.ntmps109
            go_wp2_with (first | (go_at_call 108; refine Calls.mono HN.out ?_; rintro e u ⟨hk, hg, v, rfl, rfl, ht⟩; have HK := hidP hk; have HR := hidP ht; have HGG := hidP hg; clear hk ht hg) | (go_at_call 121; refine Calls.mono (HD.out no _ b2 g2 HR2.out) ?_; rw [HF.out]; rintro e u3 ⟨hk, rfl⟩; have HK3 := hidP hk; clear hk) | (go_at_call 121; refine Calls.mono (HD.out no _ b g' HR.out) ?_; rw [HE.out]; rintro e u2 ⟨hk, hg, v, rfl, rfl, ht⟩; have HK2 := hidP hk; have HR2 := hidP ht; have HG2 := hidP hg; clear hk ht hg))
            all_goals exact ⟨rfl, PrQ.err ((HK.out.trans HK2.out fun _ _ h => h).trans HK3.out fun _ _ h => h) rfl⟩
          | ok x =>
            obtain ⟨m, b3, g3⟩ := x
            rw [Pr.bind_ok e2]
            have HF := hidP e2
            have hm := digit_lt e2
            clear e2
            go_enter Tryz.func109, Tryz.ntmps109
            go_wp2_with (first | (go_at_call 108; refine Calls.mono HN.out ?_; rintro e u ⟨hk, hg, v, rfl, rfl, ht⟩; have HK := hidP hk; have HR := hidP ht; have HGG := hidP hg; clear hk ht hg) | (go_at_call 121; refine Calls.mono (HD.out no _ b2 g2 HR2.out) ?_; rw [HF.out]; rintro e u3 ⟨hk, hg, v, rfl, rfl, ht⟩; have HK3 := hidP hk; have HR3 := hidP ht; have HG3 := hidP hg; clear hk ht hg) | (go_at_call 121; refine Calls.mono (HD.out no _ b g' HR.out) ?_; rw [HE.out]; rintro e u2 ⟨hk, hg, v, rfl, rfl, ht⟩; have HK2 := hidP hk; have HR2 := hidP ht; have HG2 := hidP hg; clear hk ht hg))
            go_ret
            have hb := bits_or ⟨n, hn⟩ ⟨m, hm⟩
            refine PrQ.ok (x := UInt8.ofNat (16 * n + m)) ((HK.out.trans HK2.out fun _ _ h => h).trans HK3.out fun _ _ h => h) (by rw [HG3.out, HG2.out, HGG.out]; rfl) ?_ HR3.out
            exact congrArg (Value.int .u8) hb
      · rw [if_neg h3]
        rw [decide_eq_false h3] at e120
        clear h3
        go_enter Tryz.func109, Tryz.ntmps109
        go_wp2_with (first | (go_at_call 108; refine Calls.mono HN.out ?_; rintro e u ⟨hk, hg, v, rfl, rfl, ht⟩; have HK := hidP hk; have HR := hidP ht; have HGG := hidP hg; clear hk ht hg))
        exact ⟨rfl, PrQ.err HK.out rfl⟩
end Go.Proofs.YtkodgneneiledaaGreatDoor.Kit
