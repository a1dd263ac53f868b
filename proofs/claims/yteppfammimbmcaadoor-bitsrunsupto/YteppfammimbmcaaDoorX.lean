import Derived.Test.YteppfammimbmcaaDoorV
namespace Go.Proofs.YteppfammimbmcaaDoor.Kit
open Go.RowKit Go.Deep
set_option linter.unusedVariables false

set_option maxRecDepth 100000 in
set_option maxHeartbeats 4000000 in
theorem says1 (ao bo lo : Option Addr) (na ca nb cb nl cl : Nat) (a b : List Nat) (l : List Bool) (hna : a.length = na) (hnb : b.length = nb) (fr n k : Int) (on : Bool) (hfr : i64 fr) (hn : i64 n) (hk : i64 k) (hnl : nl ≤ 100000000) (w : World) (hT : Tab w) (hA : MapAt w (.slice ao na ca) a) (hB : MapAt w (.slice bo nb cb) b) (hL : BoolsAt w lo nl (fun k => l.getD k false)) :
    Calls Tryd.prog 8 #[opV 1 ao bo lo na ca nb cb nl cl fr n k on] w fun e w' => ∃ rv, e = .returned rv ∧ RepAt w.heap.size w' rv { rep0 with err := errOf a.length n 1, yes := getV a n } ∧ Keeps w w' (fun _ => False) := by
  have HC : Hid (∀ R, R = (room3 w 1 ao bo lo na ca nb cb nl cl fr n k on) → Calls Tryd.prog 32 #[.slice ao na ca, .int .i64 n] R fun e w' => e = .returned (.tuple #[.bool (getV a n), .int .i64 (errOf a.length n 1)]) ∧ Keeps R w' (fun _ => False)) := fun R hR => by subst hR; exact rget_all _ a n hn _ (hA.kept (room3_keeps w _ _ _ _ _ _ _ _ _ _ _ _ _ _))
  clear hA hB hL hT hna hnb
  unfold opV
  go_enter Tryd.func8, Tryd.ntmps8
  go_wp2_with fail
  go_at_call 32
  refine (HC.out _ rfl).mono ?_
  rintro e w1 ⟨rfl, hk⟩
  have HA := After.mk' hk
  clear hk
  obtain ⟨z10, z11, z12, z13, z14, z15⟩ := HA.r1.cells
  obtain ⟨z20, z21, z22, z23, z24, z25⟩ := HA.r2.cells
  have f1 := HA.r1.frozen
  have f2 := HA.r2.frozen
  have HAA : Hid (Keeps w w1 (fun _ => False)) := HA.keeps
  have HZ : Hid (Zero6 w1 (w.heap.size + 1)) := HA.r1
  clear HA HC
  obtain ⟨X1, hX⟩ : ∃ X1, X1 = getV a n := ⟨_, rfl⟩
  rw [← hX]
  have HX : Hid ((getV a n) = X1) := hX.symm
  clear hX
  obtain ⟨E1, hE⟩ : ∃ E1, E1 = errOf a.length n 1 := ⟨_, rfl⟩
  rw [← hE]
  have HE : Hid ((errOf a.length n 1) = E1) := hE.symm
  clear hE
  go_wp2
  refine bodyPost_ret (res6 resf8 (B := w.heap.size + 1) ?t2 (six ?z6 _ _ _ _ _ _)) rfl ?_
  case t2 => simp
  case z6 => repeat (first | with_reducible exact HZ.out | with_reducible refine Zero6.other ?_ (by simp) _)
  rw [HE.out, HX.out]
  exact ⟨_, rfl, rep_mk (r := { rep0 with err := E1, yes := X1 }) HAA.out (by repeat (first | with_reducible exact Keeps.refl _ _ | with_reducible refine Keeps.setCell ?_ (fun _ => by simp [S12]) _)) (own_nil _ _) (own_nil _ _) (own_nil _ _) (fun g hg => by simp [Value.ownBlock] at hg)⟩

set_option maxRecDepth 100000 in
set_option maxHeartbeats 4000000 in
theorem says2 (ao bo lo : Option Addr) (na ca nb cb nl cl : Nat) (a b : List Nat) (l : List Bool) (hna : a.length = na) (hnb : b.length = nb) (fr n k : Int) (on : Bool) (hfr : i64 fr) (hn : i64 n) (hk : i64 k) (hnl : nl ≤ 100000000) (w : World) (hT : Tab w) (hA : MapAt w (.slice ao na ca) a) (hB : MapAt w (.slice bo nb cb) b) (hL : BoolsAt w lo nl (fun k => l.getD k false)) :
    Calls Tryd.prog 8 #[opV 2 ao bo lo na ca nb cb nl cl fr n k on] w fun e w' => ∃ rv, e = .returned rv ∧ RepAt w.heap.size w' rv { rep0 with err := errOf a.length fr n, num := countV a fr n } ∧ Keeps w w' (fun _ => False) := by
  have HC : Hid (∀ R, R = (room3 w 2 ao bo lo na ca nb cb nl cl fr n k on) → Calls Tryd.prog 33 #[.slice ao na ca, .int .i64 fr, .int .i64 n] R fun e w' => e = .returned (.tuple #[.int .i64 (countV a fr n), .int .i64 (errOf a.length fr n)]) ∧ Keeps R w' (fun _ => False)) := fun R hR => by subst hR; exact rcount_all _ a fr n hfr hn _ (hA.kept (room3_keeps w _ _ _ _ _ _ _ _ _ _ _ _ _ _))
  clear hA hB hL hT hna hnb
  unfold opV
  go_enter Tryd.func8, Tryd.ntmps8
  go_wp2_with fail
  go_at_call 33
  refine (HC.out _ rfl).mono ?_
  rintro e w1 ⟨rfl, hk⟩
  have HA := After.mk' hk
  clear hk
  obtain ⟨z10, z11, z12, z13, z14, z15⟩ := HA.r1.cells
  obtain ⟨z20, z21, z22, z23, z24, z25⟩ := HA.r2.cells
  have f1 := HA.r1.frozen
  have f2 := HA.r2.frozen
  have HAA : Hid (Keeps w w1 (fun _ => False)) := HA.keeps
  have HZ : Hid (Zero6 w1 (w.heap.size + 1)) := HA.r1
  clear HA HC
  obtain ⟨X1, hX⟩ : ∃ X1, X1 = countV a fr n := ⟨_, rfl⟩
  rw [← hX]
  have HX : Hid ((countV a fr n) = X1) := hX.symm
  clear hX
  obtain ⟨E1, hE⟩ : ∃ E1, E1 = errOf a.length fr n := ⟨_, rfl⟩
  rw [← hE]
  have HE : Hid ((errOf a.length fr n) = E1) := hE.symm
  clear hE
  go_wp2
  refine bodyPost_ret (res6 resf8 (B := w.heap.size + 1) ?t2 (six ?z6 _ _ _ _ _ _)) rfl ?_
  case t2 => simp
  case z6 => repeat (first | with_reducible exact HZ.out | with_reducible refine Zero6.other ?_ (by simp) _)
  rw [HE.out, HX.out]
  exact ⟨_, rfl, rep_mk (r := { rep0 with err := E1, num := X1 }) HAA.out (by repeat (first | with_reducible exact Keeps.refl _ _ | with_reducible refine Keeps.setCell ?_ (fun _ => by simp [S12]) _)) (own_nil _ _) (own_nil _ _) (own_nil _ _) (fun g hg => by simp [Value.ownBlock] at hg)⟩

set_option maxRecDepth 100000 in
set_option maxHeartbeats 4000000 in
theorem says3 (ao bo lo : Option Addr) (na ca nb cb nl cl : Nat) (a b : List Nat) (l : List Bool) (hna : a.length = na) (hnb : b.length = nb) (fr n k : Int) (on : Bool) (hfr : i64 fr) (hn : i64 n) (hk : i64 k) (hnl : nl ≤ 100000000) (w : World) (hT : Tab w) (hA : MapAt w (.slice ao na ca) a) (hB : MapAt w (.slice bo nb cb) b) (hL : BoolsAt w lo nl (fun k => l.getD k false)) :
    Calls Tryd.prog 8 #[opV 3 ao bo lo na ca nb cb nl cl fr n k on] w fun e w' => ∃ rv, e = .returned rv ∧ RepAt w.heap.size w' rv { rep0 with bytes := mk (fun k => l.getD k false) nl } ∧ Keeps w w' (fun _ => False) := by
  have HC : Hid (∀ R, R = (room3 w 3 ao bo lo na ca nb cb nl cl fr n k on) → Calls Tryd.prog 34 #[.slice lo nl cl] R fun e w' => ∃ v', e = .returned v' ∧ New R w' 5 v' (cellsB (mk (fun k => l.getD k false) nl))) := fun R hR => by subst hR; exact rmake_any lo nl cl _ hnl _ (hL.kept0 (room3_keeps w _ _ _ _ _ _ _ _ _ _ _ _ _ _))
  clear hA hB hL hT hna hnb
  unfold opV
  go_enter Tryd.func8, Tryd.ntmps8
  go_wp2_with fail
  go_at_call 34
  refine (HC.out _ rfl).mono ?_
  rintro e w1 ⟨v', rfl, hN⟩
  have HA := After.mk' hN.2.2
  have HO := hN.len
  have HG : Hid (∀ g, v'.ownBlock = some g → w.heap.size + 3 ≤ g) := fun g hg => by have := hN.2.1 g hg; rw [room3_size] at this; exact this
  generalize hX : mk (fun k => l.getD k false) nl = X1 at HO
  obtain ⟨ao1, cap1, rfl⟩ := own_form HO
  have HOO : Hid (w1.ownsRow 0 5 1 (.slice ao1 X1.length cap1) X1.length (cellsB X1)) := HO
  have HX : Hid ((mk (fun k => l.getD k false) nl) = X1) := hX
  clear hN HO hX
  obtain ⟨z10, z11, z12, z13, z14, z15⟩ := HA.r1.cells
  obtain ⟨z20, z21, z22, z23, z24, z25⟩ := HA.r2.cells
  have f1 := HA.r1.frozen
  have f2 := HA.r2.frozen
  have HAA : Hid (Keeps w w1 (fun _ => False)) := HA.keeps
  have HZ : Hid (Zero6 w1 (w.heap.size + 1)) := HA.r1
  clear HA HC
  go_wp2
  refine bodyPost_ret (res6 resf8 (B := w.heap.size + 1) ?t2 (six ?z6 _ _ _ _ _ _)) rfl ?_
  case t2 => simp
  case z6 => repeat (first | with_reducible exact HZ.out | with_reducible refine Zero6.other ?_ (by simp) _)
  rw [HX.out]
  exact ⟨_, rfl, rep_mk (r := { rep0 with bytes := X1 }) HAA.out (by repeat (first | with_reducible exact Keeps.refl _ _ | with_reducible refine Keeps.setCell ?_ (fun _ => by simp [S12]) _)) HOO.out (own_nil _ _) (own_nil _ _) (fun g hg => HG.out g (by simpa [Value.ownBlock] using hg))⟩

set_option maxRecDepth 100000 in
set_option maxHeartbeats 4000000 in
theorem says4 (ao bo lo : Option Addr) (na ca nb cb nl cl : Nat) (a b : List Nat) (l : List Bool) (hna : a.length = na) (hnb : b.length = nb) (fr n k : Int) (on : Bool) (hfr : i64 fr) (hn : i64 n) (hk : i64 k) (hnl : nl ≤ 100000000) (w : World) (hT : Tab w) (hA : MapAt w (.slice ao na ca) a) (hB : MapAt w (.slice bo nb cb) b) (hL : BoolsAt w lo nl (fun k => l.getD k false)) :
    Calls Tryd.prog 8 #[opV 4 ao bo lo na ca nb cb nl cl fr n k on] w fun e w' => ∃ rv, e = .returned rv ∧ RepAt w.heap.size w' rv { rep0 with err := errOf a.length fr n, bools := listV a fr n } ∧ Keeps w w' (fun _ => False) := by
  have HC : Hid (∀ R, R = (room3 w 4 ao bo lo na ca nb cb nl cl fr n k on) → Calls Tryd.prog 35 #[.slice ao na ca, .int .i64 fr, .int .i64 n] R fun e w' => ∃ v', e = .returned (.tuple #[v', .int .i64 (errOf a.length fr n)]) ∧ New R w' 4 v' (cellsO (listV a fr n))) := fun R hR => by subst hR; exact rlist_all _ a fr n hfr hn _ (hA.kept (room3_keeps w _ _ _ _ _ _ _ _ _ _ _ _ _ _))
  clear hA hB hL hT hna hnb
  unfold opV
  go_enter Tryd.func8, Tryd.ntmps8
  go_wp2_with fail
  go_at_call 35
  refine (HC.out _ rfl).mono ?_
  rintro e w1 ⟨v', rfl, hN⟩
  have HA := After.mk' hN.2.2
  have HO := hN.len
  have HG : Hid (∀ g, v'.ownBlock = some g → w.heap.size + 3 ≤ g) := fun g hg => by have := hN.2.1 g hg; rw [room3_size] at this; exact this
  generalize hX : listV a fr n = X1 at HO
  obtain ⟨ao1, cap1, rfl⟩ := own_form HO
  have HOO : Hid (w1.ownsRow 0 4 1 (.slice ao1 X1.length cap1) X1.length (cellsO X1)) := HO
  have HX : Hid ((listV a fr n) = X1) := hX
  clear hN HO hX
  obtain ⟨z10, z11, z12, z13, z14, z15⟩ := HA.r1.cells
  obtain ⟨z20, z21, z22, z23, z24, z25⟩ := HA.r2.cells
  have f1 := HA.r1.frozen
  have f2 := HA.r2.frozen
  have HAA : Hid (Keeps w w1 (fun _ => False)) := HA.keeps
  have HZ : Hid (Zero6 w1 (w.heap.size + 1)) := HA.r1
  clear HA HC
  obtain ⟨E1, hE⟩ : ∃ E1, E1 = errOf a.length fr n := ⟨_, rfl⟩
  rw [← hE]
  have HE : Hid ((errOf a.length fr n) = E1) := hE.symm
  clear hE
  go_wp2
  refine bodyPost_ret (res6 resf8 (B := w.heap.size + 1) ?t2 (six ?z6 _ _ _ _ _ _)) rfl ?_
  case t2 => simp
  case z6 => repeat (first | with_reducible exact HZ.out | with_reducible refine Zero6.other ?_ (by simp) _)
  rw [HE.out, HX.out]
  exact ⟨_, rfl, rep_mk (r := { rep0 with err := E1, bools := X1 }) HAA.out (by repeat (first | with_reducible exact Keeps.refl _ _ | with_reducible refine Keeps.setCell ?_ (fun _ => by simp [S12]) _)) (own_nil _ _) HOO.out (own_nil _ _) (fun g hg => HG.out g (by simpa [Value.ownBlock] using hg))⟩

set_option maxRecDepth 100000 in
set_option maxHeartbeats 4000000 in
theorem says5 (ao bo lo : Option Addr) (na ca nb cb nl cl : Nat) (a b : List Nat) (l : List Bool) (hna : a.length = na) (hnb : b.length = nb) (fr n k : Int) (on : Bool) (hfr : i64 fr) (hn : i64 n) (hk : i64 k) (hnl : nl ≤ 100000000) (w : World) (hT : Tab w) (hA : MapAt w (.slice ao na ca) a) (hB : MapAt w (.slice bo nb cb) b) (hL : BoolsAt w lo nl (fun k => l.getD k false)) :
    Calls Tryd.prog 8 #[opV 5 ao bo lo na ca nb cb nl cl fr n k on] w fun e w' => ∃ rv, e = .returned rv ∧ RepAt w.heap.size w' rv { rep0 with err := errOf a.length fr n, bytes := cutV a fr n } ∧ Keeps w w' (fun _ => False) := by
  have HC : Hid (∀ R, R = (room3 w 5 ao bo lo na ca nb cb nl cl fr n k on) → Calls Tryd.prog 36 #[.slice ao na ca, .int .i64 fr, .int .i64 n] R fun e w' => ∃ v', e = .returned (.tuple #[v', .int .i64 (errOf a.length fr n)]) ∧ New R w' 5 v' (cellsB (cutV a fr n))) := fun R hR => by subst hR; exact rcut_all _ a fr n hfr hn _ (hA.kept (room3_keeps w _ _ _ _ _ _ _ _ _ _ _ _ _ _))
  clear hA hB hL hT hna hnb
  unfold opV
  go_enter Tryd.func8, Tryd.ntmps8
  go_wp2_with fail
  go_at_call 36
  refine (HC.out _ rfl).mono ?_
  rintro e w1 ⟨v', rfl, hN⟩
  have HA := After.mk' hN.2.2
  have HO := hN.len
  have HG : Hid (∀ g, v'.ownBlock = some g → w.heap.size + 3 ≤ g) := fun g hg => by have := hN.2.1 g hg; rw [room3_size] at this; exact this
  generalize hX : cutV a fr n = X1 at HO
  obtain ⟨ao1, cap1, rfl⟩ := own_form HO
  have HOO : Hid (w1.ownsRow 0 5 1 (.slice ao1 X1.length cap1) X1.length (cellsB X1)) := HO
  have HX : Hid ((cutV a fr n) = X1) := hX
  clear hN HO hX
  obtain ⟨z10, z11, z12, z13, z14, z15⟩ := HA.r1.cells
  obtain ⟨z20, z21, z22, z23, z24, z25⟩ := HA.r2.cells
  have f1 := HA.r1.frozen
  have f2 := HA.r2.frozen
  have HAA : Hid (Keeps w w1 (fun _ => False)) := HA.keeps
  have HZ : Hid (Zero6 w1 (w.heap.size + 1)) := HA.r1
  clear HA HC
  obtain ⟨E1, hE⟩ : ∃ E1, E1 = errOf a.length fr n := ⟨_, rfl⟩
  rw [← hE]
  have HE : Hid ((errOf a.length fr n) = E1) := hE.symm
  clear hE
  go_wp2
  refine bodyPost_ret (res6 resf8 (B := w.heap.size + 1) ?t2 (six ?z6 _ _ _ _ _ _)) rfl ?_
  case t2 => simp
  case z6 => repeat (first | with_reducible exact HZ.out | with_reducible refine Zero6.other ?_ (by simp) _)
  rw [HE.out, HX.out]
  exact ⟨_, rfl, rep_mk (r := { rep0 with err := E1, bytes := X1 }) HAA.out (by repeat (first | with_reducible exact Keeps.refl _ _ | with_reducible refine Keeps.setCell ?_ (fun _ => by simp [S12]) _)) HOO.out (own_nil _ _) (own_nil _ _) (fun g hg => HG.out g (by simpa [Value.ownBlock] using hg))⟩

set_option maxRecDepth 100000 in
set_option maxHeartbeats 4000000 in
theorem says6 (ao bo lo : Option Addr) (na ca nb cb nl cl : Nat) (a b : List Nat) (l : List Bool) (hna : a.length = na) (hnb : b.length = nb) (fr n k : Int) (on : Bool) (hfr : i64 fr) (hn : i64 n) (hk : i64 k) (hnl : nl ≤ 100000000) (w : World) (hT : Tab w) (hA : MapAt w (.slice ao na ca) a) (hB : MapAt w (.slice bo nb cb) b) (hL : BoolsAt w lo nl (fun k => l.getD k false)) :
    Calls Tryd.prog 8 #[opV 6 ao bo lo na ca nb cb nl cl fr n k on] w fun e w' => ∃ rv, e = .returned rv ∧ RepAt w.heap.size w' rv { rep0 with err := errJ a.length b.length n, bytes := joinV (fun a b => a && b) a b n } ∧ Keeps w w' (fun _ => False) := by
  have HC : Hid (∀ R, R = (room3 w 6 ao bo lo na ca nb cb nl cl fr n k on) → Calls Tryd.prog 37 #[.int .i64 0, .slice ao na ca, .slice bo nb cb, .int .i64 n] R fun e w' => ∃ v', e = .returned (.tuple #[v', .int .i64 (errJ a.length b.length n)]) ∧ New R w' 5 v' (cellsB (joinV (fun a b => a && b) a b n))) := fun R hR => by subst hR; exact rand_all _ _ a b n hn _ (hA.kept (room3_keeps w _ _ _ _ _ _ _ _ _ _ _ _ _ _)) (hB.kept (room3_keeps w _ _ _ _ _ _ _ _ _ _ _ _ _ _))
  clear hA hB hL hT hna hnb
  unfold opV
  go_enter Tryd.func8, Tryd.ntmps8
  go_wp2_with fail
  go_at_call 37
  refine (HC.out _ rfl).mono ?_
  rintro e w1 ⟨v', rfl, hN⟩
  have HA := After.mk' hN.2.2
  have HO := hN.len
  have HG : Hid (∀ g, v'.ownBlock = some g → w.heap.size + 3 ≤ g) := fun g hg => by have := hN.2.1 g hg; rw [room3_size] at this; exact this
  generalize hX : joinV (fun a b => a && b) a b n = X1 at HO
  obtain ⟨ao1, cap1, rfl⟩ := own_form HO
  have HOO : Hid (w1.ownsRow 0 5 1 (.slice ao1 X1.length cap1) X1.length (cellsB X1)) := HO
  have HX : Hid ((joinV (fun a b => a && b) a b n) = X1) := hX
  clear hN HO hX
  obtain ⟨z10, z11, z12, z13, z14, z15⟩ := HA.r1.cells
  obtain ⟨z20, z21, z22, z23, z24, z25⟩ := HA.r2.cells
  have f1 := HA.r1.frozen
  have f2 := HA.r2.frozen
  have HAA : Hid (Keeps w w1 (fun _ => False)) := HA.keeps
  have HZ : Hid (Zero6 w1 (w.heap.size + 1)) := HA.r1
  clear HA HC
  obtain ⟨E1, hE⟩ : ∃ E1, E1 = errJ a.length b.length n := ⟨_, rfl⟩
  rw [← hE]
  have HE : Hid ((errJ a.length b.length n) = E1) := hE.symm
  clear hE
  go_wp2
  refine bodyPost_ret (res6 resf8 (B := w.heap.size + 1) ?t2 (six ?z6 _ _ _ _ _ _)) rfl ?_
  case t2 => simp
  case z6 => repeat (first | with_reducible exact HZ.out | with_reducible refine Zero6.other ?_ (by simp) _)
  rw [HE.out, HX.out]
  exact ⟨_, rfl, rep_mk (r := { rep0 with err := E1, bytes := X1 }) HAA.out (by repeat (first | with_reducible exact Keeps.refl _ _ | with_reducible refine Keeps.setCell ?_ (fun _ => by simp [S12]) _)) HOO.out (own_nil _ _) (own_nil _ _) (fun g hg => HG.out g (by simpa [Value.ownBlock] using hg))⟩

set_option maxRecDepth 100000 in
set_option maxHeartbeats 4000000 in
theorem says7 (ao bo lo : Option Addr) (na ca nb cb nl cl : Nat) (a b : List Nat) (l : List Bool) (hna : a.length = na) (hnb : b.length = nb) (fr n k : Int) (on : Bool) (hfr : i64 fr) (hn : i64 n) (hk : i64 k) (hnl : nl ≤ 100000000) (w : World) (hT : Tab w) (hA : MapAt w (.slice ao na ca) a) (hB : MapAt w (.slice bo nb cb) b) (hL : BoolsAt w lo nl (fun k => l.getD k false)) :
    Calls Tryd.prog 8 #[opV 7 ao bo lo na ca nb cb nl cl fr n k on] w fun e w' => ∃ rv, e = .returned rv ∧ RepAt w.heap.size w' rv { rep0 with err := errJ a.length b.length n, bytes := joinV (fun a b => a || b) a b n } ∧ Keeps w w' (fun _ => False) := by
  have HC : Hid (∀ R, R = (room3 w 7 ao bo lo na ca nb cb nl cl fr n k on) → Calls Tryd.prog 37 #[.int .i64 1, .slice ao na ca, .slice bo nb cb, .int .i64 n] R fun e w' => ∃ v', e = .returned (.tuple #[v', .int .i64 (errJ a.length b.length n)]) ∧ New R w' 5 v' (cellsB (joinV (fun a b => a || b) a b n))) := fun R hR => by subst hR; exact ror_all _ _ a b n hn _ (hA.kept (room3_keeps w _ _ _ _ _ _ _ _ _ _ _ _ _ _)) (hB.kept (room3_keeps w _ _ _ _ _ _ _ _ _ _ _ _ _ _))
  clear hA hB hL hT hna hnb
  unfold opV
  go_enter Tryd.func8, Tryd.ntmps8
  go_wp2_with fail
  go_at_call 37
  refine (HC.out _ rfl).mono ?_
  rintro e w1 ⟨v', rfl, hN⟩
  have HA := After.mk' hN.2.2
  have HO := hN.len
  have HG : Hid (∀ g, v'.ownBlock = some g → w.heap.size + 3 ≤ g) := fun g hg => by have := hN.2.1 g hg; rw [room3_size] at this; exact this
  generalize hX : joinV (fun a b => a || b) a b n = X1 at HO
  obtain ⟨ao1, cap1, rfl⟩ := own_form HO
  have HOO : Hid (w1.ownsRow 0 5 1 (.slice ao1 X1.length cap1) X1.length (cellsB X1)) := HO
  have HX : Hid ((joinV (fun a b => a || b) a b n) = X1) := hX
  clear hN HO hX
  obtain ⟨z10, z11, z12, z13, z14, z15⟩ := HA.r1.cells
  obtain ⟨z20, z21, z22, z23, z24, z25⟩ := HA.r2.cells
  have f1 := HA.r1.frozen
  have f2 := HA.r2.frozen
  have HAA : Hid (Keeps w w1 (fun _ => False)) := HA.keeps
  have HZ : Hid (Zero6 w1 (w.heap.size + 1)) := HA.r1
  clear HA HC
  obtain ⟨E1, hE⟩ : ∃ E1, E1 = errJ a.length b.length n := ⟨_, rfl⟩
  rw [← hE]
  have HE : Hid ((errJ a.length b.length n) = E1) := hE.symm
  clear hE
  go_wp2
  refine bodyPost_ret (res6 resf8 (B := w.heap.size + 1) ?t2 (six ?z6 _ _ _ _ _ _)) rfl ?_
  case t2 => simp
  case z6 => repeat (first | with_reducible exact HZ.out | with_reducible refine Zero6.other ?_ (by simp) _)
  rw [HE.out, HX.out]
  exact ⟨_, rfl, rep_mk (r := { rep0 with err := E1, bytes := X1 }) HAA.out (by repeat (first | with_reducible exact Keeps.refl _ _ | with_reducible refine Keeps.setCell ?_ (fun _ => by simp [S12]) _)) HOO.out (own_nil _ _) (own_nil _ _) (fun g hg => HG.out g (by simpa [Value.ownBlock] using hg))⟩

set_option maxRecDepth 100000 in
set_option maxHeartbeats 4000000 in
theorem says8 (ao bo lo : Option Addr) (na ca nb cb nl cl : Nat) (a b : List Nat) (l : List Bool) (hna : a.length = na) (hnb : b.length = nb) (fr n k : Int) (on : Bool) (hfr : i64 fr) (hn : i64 n) (hk : i64 k) (hnl : nl ≤ 100000000) (w : World) (hT : Tab w) (hA : MapAt w (.slice ao na ca) a) (hB : MapAt w (.slice bo nb cb) b) (hL : BoolsAt w lo nl (fun k => l.getD k false)) :
    Calls Tryd.prog 8 #[opV 8 ao bo lo na ca nb cb nl cl fr n k on] w fun e w' => ∃ rv, e = .returned rv ∧ RepAt w.heap.size w' rv { rep0 with err := errJ a.length b.length n, bytes := joinV (fun a b => a ^^ b) a b n } ∧ Keeps w w' (fun _ => False) := by
  have HC : Hid (∀ R, R = (room3 w 8 ao bo lo na ca nb cb nl cl fr n k on) → Calls Tryd.prog 37 #[.int .i64 2, .slice ao na ca, .slice bo nb cb, .int .i64 n] R fun e w' => ∃ v', e = .returned (.tuple #[v', .int .i64 (errJ a.length b.length n)]) ∧ New R w' 5 v' (cellsB (joinV (fun a b => a ^^ b) a b n))) := fun R hR => by subst hR; exact rxor_all _ _ a b n hn _ (hA.kept (room3_keeps w _ _ _ _ _ _ _ _ _ _ _ _ _ _)) (hB.kept (room3_keeps w _ _ _ _ _ _ _ _ _ _ _ _ _ _))
  clear hA hB hL hT hna hnb
  unfold opV
  go_enter Tryd.func8, Tryd.ntmps8
  go_wp2_with fail
  go_at_call 37
  refine (HC.out _ rfl).mono ?_
  rintro e w1 ⟨v', rfl, hN⟩
  have HA := After.mk' hN.2.2
  have HO := hN.len
  have HG : Hid (∀ g, v'.ownBlock = some g → w.heap.size + 3 ≤ g) := fun g hg => by have := hN.2.1 g hg; rw [room3_size] at this; exact this
  generalize hX : joinV (fun a b => a ^^ b) a b n = X1 at HO
  obtain ⟨ao1, cap1, rfl⟩ := own_form HO
  have HOO : Hid (w1.ownsRow 0 5 1 (.slice ao1 X1.length cap1) X1.length (cellsB X1)) := HO
  have HX : Hid ((joinV (fun a b => a ^^ b) a b n) = X1) := hX
  clear hN HO hX
  obtain ⟨z10, z11, z12, z13, z14, z15⟩ := HA.r1.cells
  obtain ⟨z20, z21, z22, z23, z24, z25⟩ := HA.r2.cells
  have f1 := HA.r1.frozen
  have f2 := HA.r2.frozen
  have HAA : Hid (Keeps w w1 (fun _ => False)) := HA.keeps
  have HZ : Hid (Zero6 w1 (w.heap.size + 1)) := HA.r1
  clear HA HC
  obtain ⟨E1, hE⟩ : ∃ E1, E1 = errJ a.length b.length n := ⟨_, rfl⟩
  rw [← hE]
  have HE : Hid ((errJ a.length b.length n) = E1) := hE.symm
  clear hE
  go_wp2
  refine bodyPost_ret (res6 resf8 (B := w.heap.size + 1) ?t2 (six ?z6 _ _ _ _ _ _)) rfl ?_
  case t2 => simp
  case z6 => repeat (first | with_reducible exact HZ.out | with_reducible refine Zero6.other ?_ (by simp) _)
  rw [HE.out, HX.out]
  exact ⟨_, rfl, rep_mk (r := { rep0 with err := E1, bytes := X1 }) HAA.out (by repeat (first | with_reducible exact Keeps.refl _ _ | with_reducible refine Keeps.setCell ?_ (fun _ => by simp [S12]) _)) HOO.out (own_nil _ _) (own_nil _ _) (fun g hg => HG.out g (by simpa [Value.ownBlock] using hg))⟩

set_option maxRecDepth 100000 in
set_option maxHeartbeats 4000000 in
theorem says9 (ao bo lo : Option Addr) (na ca nb cb nl cl : Nat) (a b : List Nat) (l : List Bool) (hna : a.length = na) (hnb : b.length = nb) (fr n k : Int) (on : Bool) (hfr : i64 fr) (hn : i64 n) (hk : i64 k) (hnl : nl ≤ 100000000) (w : World) (hT : Tab w) (hA : MapAt w (.slice ao na ca) a) (hB : MapAt w (.slice bo nb cb) b) (hL : BoolsAt w lo nl (fun k => l.getD k false)) :
    Calls Tryd.prog 8 #[opV 9 ao bo lo na ca nb cb nl cl fr n k on] w fun e w' => ∃ rv, e = .returned rv ∧ RepAt w.heap.size w' rv { rep0 with err := errOf a.length 0 n, bytes := notV a n } ∧ Keeps w w' (fun _ => False) := by
  have HC : Hid (∀ R, R = (room3 w 9 ao bo lo na ca nb cb nl cl fr n k on) → Calls Tryd.prog 38 #[.slice ao na ca, .int .i64 n] R fun e w' => ∃ v', e = .returned (.tuple #[v', .int .i64 (errOf a.length 0 n)]) ∧ New R w' 5 v' (cellsB (notV a n))) := fun R hR => by subst hR; exact rnot_all _ a n hn _ (hA.kept (room3_keeps w _ _ _ _ _ _ _ _ _ _ _ _ _ _))
  clear hA hB hL hT hna hnb
  unfold opV
  go_enter Tryd.func8, Tryd.ntmps8
  go_wp2_with fail
  go_at_call 38
  refine (HC.out _ rfl).mono ?_
  rintro e w1 ⟨v', rfl, hN⟩
  have HA := After.mk' hN.2.2
  have HO := hN.len
  have HG : Hid (∀ g, v'.ownBlock = some g → w.heap.size + 3 ≤ g) := fun g hg => by have := hN.2.1 g hg; rw [room3_size] at this; exact this
  generalize hX : notV a n = X1 at HO
  obtain ⟨ao1, cap1, rfl⟩ := own_form HO
  have HOO : Hid (w1.ownsRow 0 5 1 (.slice ao1 X1.length cap1) X1.length (cellsB X1)) := HO
  have HX : Hid ((notV a n) = X1) := hX
  clear hN HO hX
  obtain ⟨z10, z11, z12, z13, z14, z15⟩ := HA.r1.cells
  obtain ⟨z20, z21, z22, z23, z24, z25⟩ := HA.r2.cells
  have f1 := HA.r1.frozen
  have f2 := HA.r2.frozen
  have HAA : Hid (Keeps w w1 (fun _ => False)) := HA.keeps
  have HZ : Hid (Zero6 w1 (w.heap.size + 1)) := HA.r1
  clear HA HC
  obtain ⟨E1, hE⟩ : ∃ E1, E1 = errOf a.length 0 n := ⟨_, rfl⟩
  rw [← hE]
  have HE : Hid ((errOf a.length 0 n) = E1) := hE.symm
  clear hE
  go_wp2
  refine bodyPost_ret (res6 resf8 (B := w.heap.size + 1) ?t2 (six ?z6 _ _ _ _ _ _)) rfl ?_
  case t2 => simp
  case z6 => repeat (first | with_reducible exact HZ.out | with_reducible refine Zero6.other ?_ (by simp) _)
  rw [HE.out, HX.out]
  exact ⟨_, rfl, rep_mk (r := { rep0 with err := E1, bytes := X1 }) HAA.out (by repeat (first | with_reducible exact Keeps.refl _ _ | with_reducible refine Keeps.setCell ?_ (fun _ => by simp [S12]) _)) HOO.out (own_nil _ _) (own_nil _ _) (fun g hg => HG.out g (by simpa [Value.ownBlock] using hg))⟩

set_option maxRecDepth 100000 in
set_option maxHeartbeats 4000000 in
theorem says11 (ao bo lo : Option Addr) (na ca nb cb nl cl : Nat) (a b : List Nat) (l : List Bool) (hna : a.length = na) (hnb : b.length = nb) (fr n k : Int) (on : Bool) (hfr : i64 fr) (hn : i64 n) (hk : i64 k) (hnl : nl ≤ 100000000) (w : World) (hT : Tab w) (hA : MapAt w (.slice ao na ca) a) (hB : MapAt w (.slice bo nb cb) b) (hL : BoolsAt w lo nl (fun k => l.getD k false)) :
    Calls Tryd.prog 8 #[opV 11 ao bo lo na ca nb cb nl cl fr n k on] w fun e w' => ∃ rv, e = .returned rv ∧ RepAt w.heap.size w' rv { rep0 with num := nextV a fr n on } ∧ Keeps w w' (fun _ => False) := by
  have HC : Hid (∀ R, R = (room3 w 11 ao bo lo na ca nb cb nl cl fr n k on) → Calls Tryd.prog 39 #[.slice ao na ca, .int .i64 fr, .int .i64 n, .bool on] R fun e w' => e = .returned (.int .i64 (nextV a fr n on)) ∧ Keeps R w' (fun _ => False)) := fun R hR => by subst hR; exact rnext_all _ a on fr n hfr hn _ (hA.kept (room3_keeps w _ _ _ _ _ _ _ _ _ _ _ _ _ _))
  clear hA hB hL hT hna hnb
  unfold opV
  go_enter Tryd.func8, Tryd.ntmps8
  go_wp2_with fail
  go_at_call 39
  refine (HC.out _ rfl).mono ?_
  rintro e w1 ⟨rfl, hk⟩
  have HA := After.mk' hk
  clear hk
  obtain ⟨z10, z11, z12, z13, z14, z15⟩ := HA.r1.cells
  obtain ⟨z20, z21, z22, z23, z24, z25⟩ := HA.r2.cells
  have f1 := HA.r1.frozen
  have f2 := HA.r2.frozen
  have HAA : Hid (Keeps w w1 (fun _ => False)) := HA.keeps
  have HZ : Hid (Zero6 w1 (w.heap.size + 1)) := HA.r1
  clear HA HC
  obtain ⟨X1, hX⟩ : ∃ X1, X1 = nextV a fr n on := ⟨_, rfl⟩
  rw [← hX]
  have HX : Hid ((nextV a fr n on) = X1) := hX.symm
  clear hX
  go_wp2
  refine bodyPost_ret (res6 resf8 (B := w.heap.size + 1) ?t2 (six ?z6 _ _ _ _ _ _)) rfl ?_
  case t2 => simp
  case z6 => repeat (first | with_reducible exact HZ.out | with_reducible refine Zero6.other ?_ (by simp) _)
  rw [HX.out]
  exact ⟨_, rfl, rep_mk (r := { rep0 with err := 0, num := X1 }) HAA.out (by repeat (first | with_reducible exact Keeps.refl _ _ | with_reducible refine Keeps.setCell ?_ (fun _ => by simp [S12]) _)) (own_nil _ _) (own_nil _ _) (own_nil _ _) (fun g hg => by simp [Value.ownBlock] at hg)⟩

set_option maxRecDepth 100000 in
set_option maxHeartbeats 4000000 in
theorem says12 (ao bo lo : Option Addr) (na ca nb cb nl cl : Nat) (a b : List Nat) (l : List Bool) (hna : a.length = na) (hnb : b.length = nb) (fr n k : Int) (on : Bool) (hfr : i64 fr) (hn : i64 n) (hk : i64 k) (hnl : nl ≤ 100000000) (w : World) (hT : Tab w) (hA : MapAt w (.slice ao na ca) a) (hB : MapAt w (.slice bo nb cb) b) (hL : BoolsAt w lo nl (fun k => l.getD k false)) :
    Calls Tryd.prog 8 #[opV 12 ao bo lo na ca nb cb nl cl fr n k on] w fun e w' => ∃ rv, e = .returned rv ∧ RepAt w.heap.size w' rv { rep0 with err := errP a fr n k, num := placeV a fr n k } ∧ Keeps w w' (fun _ => False) := by
  have HC : Hid (∀ R, R = (room3 w 12 ao bo lo na ca nb cb nl cl fr n k on) → Calls Tryd.prog 40 #[.slice ao na ca, .int .i64 fr, .int .i64 n, .int .i64 k] R fun e w' => e = .returned (.tuple #[.int .i64 (placeV a fr n k), .int .i64 (errP a fr n k)]) ∧ Keeps R w' (fun _ => False)) := fun R hR => by subst hR; exact rplace_all _ a fr n k hfr hn hk _ (hA.kept (room3_keeps w _ _ _ _ _ _ _ _ _ _ _ _ _ _))
  clear hA hB hL hT hna hnb
  unfold opV
  go_enter Tryd.func8, Tryd.ntmps8
  go_wp2_with fail
  go_at_call 40
  refine (HC.out _ rfl).mono ?_
  rintro e w1 ⟨rfl, hk⟩
  have HA := After.mk' hk
  clear hk
  obtain ⟨z10, z11, z12, z13, z14, z15⟩ := HA.r1.cells
  obtain ⟨z20, z21, z22, z23, z24, z25⟩ := HA.r2.cells
  have f1 := HA.r1.frozen
  have f2 := HA.r2.frozen
  have HAA : Hid (Keeps w w1 (fun _ => False)) := HA.keeps
  have HZ : Hid (Zero6 w1 (w.heap.size + 1)) := HA.r1
  clear HA HC
  obtain ⟨X1, hX⟩ : ∃ X1, X1 = placeV a fr n k := ⟨_, rfl⟩
  rw [← hX]
  have HX : Hid ((placeV a fr n k) = X1) := hX.symm
  clear hX
  obtain ⟨E1, hE⟩ : ∃ E1, E1 = errP a fr n k := ⟨_, rfl⟩
  rw [← hE]
  have HE : Hid ((errP a fr n k) = E1) := hE.symm
  clear hE
  go_wp2
  refine bodyPost_ret (res6 resf8 (B := w.heap.size + 1) ?t2 (six ?z6 _ _ _ _ _ _)) rfl ?_
  case t2 => simp
  case z6 => repeat (first | with_reducible exact HZ.out | with_reducible refine Zero6.other ?_ (by simp) _)
  rw [HE.out, HX.out]
  exact ⟨_, rfl, rep_mk (r := { rep0 with err := E1, num := X1 }) HAA.out (by repeat (first | with_reducible exact Keeps.refl _ _ | with_reducible refine Keeps.setCell ?_ (fun _ => by simp [S12]) _)) (own_nil _ _) (own_nil _ _) (own_nil _ _) (fun g hg => by simp [Value.ownBlock] at hg)⟩

set_option maxRecDepth 100000 in
set_option maxHeartbeats 4000000 in
theorem says13 (kd : Int) (hkd : ¬ kd = 1 ∧ ¬ kd = 2 ∧ ¬ kd = 3 ∧ ¬ kd = 4 ∧ ¬ kd = 5 ∧ ¬ kd = 6 ∧ ¬ kd = 7 ∧ ¬ kd = 8 ∧ ¬ kd = 9 ∧ ¬ kd = 10 ∧ ¬ kd = 11 ∧ ¬ kd = 12) (ao bo lo : Option Addr) (na ca nb cb nl cl : Nat) (a b : List Nat) (l : List Bool) (hna : a.length = na) (hnb : b.length = nb) (fr n k : Int) (on : Bool) (hfr : i64 fr) (hn : i64 n) (hk : i64 k) (hnl : nl ≤ 100000000) (w : World) (hT : Tab w) (hA : MapAt w (.slice ao na ca) a) (hB : MapAt w (.slice bo nb cb) b) (hL : BoolsAt w lo nl (fun k => l.getD k false)) :
    Calls Tryd.prog 8 #[opV kd ao bo lo na ca nb cb nl cl fr n k on] w fun e w' => ∃ rv, e = .returned rv ∧ RepAt w.heap.size w' rv { rep0 with num := needV n } ∧ Keeps w w' (fun _ => False) := by
  obtain ⟨k1, k2, k3, k4, k5, k6, k7, k8, k9, k10, k11, k12⟩ := hkd
  have HC : Hid (∀ R, R = (room3 w kd ao bo lo na ca nb cb nl cl fr n k on) → Calls Tryd.prog 41 #[.int .i64 n] R fun e w' => e = .returned (.int .i64 (needV n)) ∧ R = w') := fun R hR => by subst hR; exact rneed_all n hn _
  clear hA hB hL hT hna hnb
  unfold opV
  go_enter Tryd.func8, Tryd.ntmps8
  go_wp2_with fail
  go_at_call 41
  refine (HC.out _ rfl).mono ?_
  rintro e w1 ⟨rfl, hk⟩
  have HA : After w w1 := After.mk' (kind := kd) (ao := ao) (bo := bo) (lo := lo) (na := na) (ca := ca) (nb := nb) (cb := cb) (nl := nl) (cl := cl) (fr := fr) (n := n) (k := k) (on := on) (by rw [← hk]; exact Keeps.refl _ _)
  clear hk
  obtain ⟨z10, z11, z12, z13, z14, z15⟩ := HA.r1.cells
  obtain ⟨z20, z21, z22, z23, z24, z25⟩ := HA.r2.cells
  have f1 := HA.r1.frozen
  have f2 := HA.r2.frozen
  have HAA : Hid (Keeps w w1 (fun _ => False)) := HA.keeps
  have HZ : Hid (Zero6 w1 (w.heap.size + 1)) := HA.r1
  clear HA HC
  obtain ⟨X1, hX⟩ : ∃ X1, X1 = needV n := ⟨_, rfl⟩
  rw [← hX]
  have HX : Hid ((needV n) = X1) := hX.symm
  clear hX
  go_wp2
  refine bodyPost_ret (res6 resf8 (B := w.heap.size + 1) ?t2 (six ?z6 _ _ _ _ _ _)) rfl ?_
  case t2 => simp
  case z6 => repeat (first | with_reducible exact HZ.out | with_reducible refine Zero6.other ?_ (by simp) _)
  rw [HX.out]
  exact ⟨_, rfl, rep_mk (r := { rep0 with err := 0, num := X1 }) HAA.out (by repeat (first | with_reducible exact Keeps.refl _ _ | with_reducible refine Keeps.setCell ?_ (fun _ => by simp [S12]) _)) (own_nil _ _) (own_nil _ _) (own_nil _ _) (fun g hg => by simp [Value.ownBlock] at hg)⟩
end Go.Proofs.YteppfammimbmcaaDoor.Kit
