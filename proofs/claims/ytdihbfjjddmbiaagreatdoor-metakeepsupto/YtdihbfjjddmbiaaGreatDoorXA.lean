import Derived.Test.YtdihbfjjddmbiaaGreatDoorOA
import Derived.Test.YtdihbfjjddmbiaaGreatDoorSJ
import Derived.Deep.RegionHeld3
import Derived.Deep.RegionLaw
set_option maxRecDepth 100000
set_option maxHeartbeats 4000000
namespace Go.Proofs.YtdihbfjjddmbiaaGreatDoor.Kit
open Go.RowKit Go.Shelf Go.Deep
set_option linter.unusedVariables false
def extT (k w i x n : Nat) : List UInt8 := if k = 14 ∨ k = 16 then numB w 2 else if k = 19 then numB i 2 ++ numB x 1 else if k = 17 ∨ k = 18 then numB n 1 else []
theorem dec_ext (k : Nat) : Dec (fun B => extR B k) (fun e b => b = extT k e.1 e.2.1 e.2.2.1 e.2.2.2) := by
  unfold extR extT
  by_cases c1 : k = 14
  · simp only [c1, if_true, true_or]
    exact ((dec_num 2).last (f := fun x => (x, 0, 0, 0))).mono fun y b ⟨x, hy, hb⟩ => by rw [hy, hb.1]
  simp only [if_neg c1]
  by_cases c2 : k = 16
  · simp only [c2, if_true, or_true]
    exact ((dec_num 2).last (f := fun x => (x, 0, 0, 1))).mono fun y b ⟨x, hy, hb⟩ => by rw [hy, hb.1]
  simp only [if_neg c2, if_neg (show ¬ (k = 14 ∨ k = 16) by omega)]
  by_cases c3 : k = 19
  · simp only [c3, if_true]
    exact ((dec_num 2).bind (f := fun B x => (numR B 1).bind fun y => Rd.pure (0, x, y, 1)) fun x => (dec_num 1).last (f := fun y => (0, x, y, 1))).mono fun y b ⟨x, b1, b2, e, h1, z, hy, h2⟩ => by rw [e, h1.1, h2.1, hy]
  simp only [if_neg c3]
  by_cases c4 : k = 15 ∨ k = 20
  · simp only [if_pos c4, if_neg (show ¬ (k = 17 ∨ k = 18) by omega)]
    exact (Dec.pure _).mono fun y b h => h.2
  simp only [if_neg c4]
  by_cases c5 : k = 17 ∨ k = 18
  · simp only [if_pos c5]
    exact ((dec_num 1).last (f := fun x => (0, 0, 0, x))).mono fun y b ⟨x, hy, hb⟩ => by rw [hy, hb.1]
  simp only [if_neg c5]
  exact (Dec.pure _).mono fun y b h => h.2
theorem dec_typ {R : List UInt8 → Rd FT} {enc : FT → List UInt8} {Q : FT → Prop} (h : Dec R (fun x b => b = enc x ∧ Q x)) : Dec (fun B => typR B (R B)) (fun t b => b = numB t.kind 1 ++ extT t.kind t.width t.id t.index t.kids.length ++ t.kids.flatMap enc ∧ ∀ x ∈ t.kids, Q x) := by
  have d3 := fun (k : Nat) (e : Nat × Nat × Nat × Nat) => (dec_sev h (fun _ _ h => h) e.2.2.2).last (f := fun l => TD.mk k e.1 e.2.1 e.2.2.1 l)
  have d2 := fun (k : Nat) => (dec_ext k).bind (f := fun B e => (sevR e.2.2.2 (R B)).bind fun l => Rd.pure (TD.mk k e.1 e.2.1 e.2.2.1 l)) (d3 k)
  have d1 := (dec_among 1 20).bind (f := fun B k => (extR B k).bind fun e => (sevR e.2.2.2 (R B)).bind fun l => Rd.pure (TD.mk k e.1 e.2.1 e.2.2.1 l)) d2
  refine d1.mono ?_
  rintro t b ⟨k, b1, b2, hb, h1, e, b3, b4, hb2, h2, l, ht, h3, h4, h5⟩
  rw [ht]
  refine ⟨?_, h5⟩
  rw [hb, hb2, h1.1, h2, h4, h3, List.append_assoc]
theorem extB_mk (nm : ByteArray) (nu : Bool) (k w i x : Nat) (l : List FT) : extB (.mk nm nu (k : Int) (w : Int) (i : Int) (x : Int) l) = extT k w i x l.length := by
  show (if (k : Int) = 14 ∨ (k : Int) = 16 then numB (w : Int).toNat 2 else if (k : Int) = 19 then numB (i : Int).toNat 2 ++ numB (x : Int).toNat 1 else if (k : Int) = 17 ∨ (k : Int) = 18 then numB l.length 1 else []) = (if k = 14 ∨ k = 16 then numB w 2 else if k = 19 then numB i 2 ++ numB x 1 else if k = 17 ∨ k = 18 then numB l.length 1 else [])
  simp only [Int.toNat_natCast]
  by_cases c1 : k = 14 ∨ k = 16
  · rw [if_pos c1, if_pos (by omega)]
  rw [if_neg c1, if_neg (show ¬ ((k : Int) = 14 ∨ (k : Int) = 16) by omega)]
  by_cases c2 : k = 19
  · rw [if_pos c2, if_pos (by omega)]
  rw [if_neg c2, if_neg (show ¬ ((k : Int) = 19) by omega)]
  by_cases c3 : k = 17 ∨ k = 18
  · rw [if_pos c3, if_pos (by omega)]
  rw [if_neg c3, if_neg (by omega)]
theorem dec_step {d : Nat} {enc : FT → List UInt8} {Q : FT → Prop} (h : Dec (fun B => fieldR B d) (fun x b => b = enc x ∧ Q x)) : Dec (fun B => fieldR B (d + 1)) (fun f b => b = hdB f ++ f.kids.flatMap enc ∧ ∀ x ∈ f.kids, Q x) := by
  have key : Dec (fun B => (textR B 1).bind fun nm => (flagR B).bind fun nu => (typR B (fieldR B d)).bind fun t => Rd.pure (FT.mk nm nu t.kind t.width t.id t.index t.kids)) (fun f b => b = hdB f ++ f.kids.flatMap enc ∧ ∀ x ∈ f.kids, Q x) := by
    have d3 := fun (nm : ByteArray) (nu : Bool) => (dec_typ h).last (f := fun t => FT.mk nm nu t.kind t.width t.id t.index t.kids)
    have d2 := fun (nm : ByteArray) => dec_flag.bind (f := fun B nu => (typR B (fieldR B d)).bind fun t => Rd.pure (FT.mk nm nu t.kind t.width t.id t.index t.kids)) (d3 nm)
    have d1 := (dec_text 1).bind (f := fun B nm => (flagR B).bind fun nu => (typR B (fieldR B d)).bind fun t => Rd.pure (FT.mk nm nu t.kind t.width t.id t.index t.kids)) d2
    refine d1.mono ?_
    rintro f b ⟨nm, b1, b2, hb, h1, nu, b3, b4, hb2, h2, t, ht, h3, h4⟩
    rw [ht]
    refine ⟨?_, h4⟩
    rw [hb, hb2, h1, h2, h3]
    unfold hdB
    rw [extB_mk]
    simp only [FT.name, FT.nul, FT.kind, FT.kids, Int.toNat_natCast, List.append_assoc]
  intro B s hs
  by_cases c : s.2 = 256
  · have e : fieldR B (d + 1) s = .error (50, s.1) := by rw [fieldR]; exact if_pos c
    refine ⟨fun x s' hx => ?_, fun e' hx => ?_⟩
    · dsimp only at hx; rw [e] at hx; cases hx
    dsimp only at hx; rw [e] at hx; cases hx; exact ⟨hs, .inr (.inl rfl)⟩
  have e : fieldR B (d + 1) s = ((textR B 1).bind fun nm => (flagR B).bind fun nu => (typR B (fieldR B d)).bind fun t => Rd.pure (FT.mk nm nu t.kind t.width t.id t.index t.kids)) (s.1, s.2 + 1) := by rw [fieldR]; exact if_neg c
  have hk := key B (s.1, s.2 + 1) hs
  refine ⟨fun x s' hx => ?_, fun e' hx => ?_⟩
  · dsimp only at hx; rw [e] at hx; exact hk.1 x s' hx
  dsimp only at hx; rw [e] at hx; exact hk.2 e' hx
theorem dec_field : ∀ d : Nat, Dec (fun B => fieldR B (d + 1)) (fun f b => b = fldB d f ∧ deep d f.kids)
  | 0 => by
    have h0 : Dec (fun B => fieldR B 0) (fun (x : FT) b => b = (fun _ => ([] : List UInt8)) x ∧ False) := fun B s hs => by
      refine ⟨fun x s' h => ?_, fun e h => ?_⟩ <;> dsimp only at h <;> rw [fieldR] at h <;> cases h
      exact ⟨hs, .inr (.inl rfl)⟩
    refine (dec_step (Q := fun _ => False) h0).mono fun f b ⟨hb, hq⟩ => ?_
    have e : f.kids = [] := by
      cases hk : f.kids with
      | nil => rfl
      | cons a l => exact (hq a (by rw [hk]; exact List.mem_cons_self)).elim
    refine ⟨?_, e⟩
    rw [hb, e, fldB]
    simp
  | d + 1 => (dec_step (dec_field d)).mono fun f b ⟨hb, hq⟩ => ⟨hb, hq⟩
theorem dec_sch : Dec schR (fun p b => b = schB (fldB 63) p.1 p.2 ∧ deep 64 p.1 ∧ p.1.length < 65536 ∧ p.2.length < 65536) :=
  ((dec_num 2).bind (f := fun B n => (sevR n (fieldR B 64)).bind fun fs => (numR B 2).bind fun m => (sevR m (noteR B)).bind fun ns => Rd.pure (fs, ns)) fun n =>
    (dec_sev (dec_field 63) (fun _ _ h => h) n).bind (f := fun B fs => (numR B 2).bind fun m => (sevR m (noteR B)).bind fun ns => Rd.pure (fs, ns)) fun fs =>
      (dec_num 2).bind (f := fun B m => (sevR m (noteR B)).bind fun ns => Rd.pure (fs, ns)) fun m =>
        (dec_sev (Q := fun _ => True) dec_note (fun _ _ h => ⟨h, trivial⟩) m).last (f := fun ns => (fs, ns))).mono fun p b ⟨n, b1, b2, e1, h1, fs, b3, b4, e2, h2, m, b5, b6, e3, h3, ns, hp, h4⟩ => by
    rw [hp]
    refine ⟨?_, h2.2.2, by have := h1.2; have := h2.1; show fs.length < 65536; omega, by have := h3.2; have := h4.1; show ns.length < 65536; omega⟩
    rw [e1, e2, e3, h1.1, h2.2.1, h3.1, h4.2.1, ← h2.1, ← h4.1]
    unfold schB
    simp only [List.append_assoc]
theorem dec_body (k id : Nat) (dl : Bool) : Dec (fun B => bodyR B k id dl) (fun x b => x.kind = k ∧ x.id = id ∧ x.delta = dl ∧ x.fs = [] ∧ x.ns = [] ∧ b = bdyB x.rows x.press x.nds x.sls ∧ x.nds.length < 65536 ∧ x.sls.length < 65536) :=
  ((dec_num 4).bind (f := fun B rows => (numR B 1).bind fun pr => (numR B 2).bind fun n => (sevR n (nodeR B)).bind fun nds => (numR B 2).bind fun m => (sevR m (slotR B)).bind fun sls => Rd.pure (HD.mk k [] [] id dl rows pr nds sls)) fun rows =>
    (dec_num 1).bind (f := fun B pr => (numR B 2).bind fun n => (sevR n (nodeR B)).bind fun nds => (numR B 2).bind fun m => (sevR m (slotR B)).bind fun sls => Rd.pure (HD.mk k [] [] id dl rows pr nds sls)) fun pr =>
      (dec_num 2).bind (f := fun B n => (sevR n (nodeR B)).bind fun nds => (numR B 2).bind fun m => (sevR m (slotR B)).bind fun sls => Rd.pure (HD.mk k [] [] id dl rows pr nds sls)) fun n =>
        (dec_sev (Q := fun _ => True) dec_node (fun _ _ h => ⟨h, trivial⟩) n).bind (f := fun B nds => (numR B 2).bind fun m => (sevR m (slotR B)).bind fun sls => Rd.pure (HD.mk k [] [] id dl rows pr nds sls)) fun nds =>
          (dec_num 2).bind (f := fun B m => (sevR m (slotR B)).bind fun sls => Rd.pure (HD.mk k [] [] id dl rows pr nds sls)) fun m =>
            (dec_sev (Q := fun _ => True) dec_slot (fun _ _ h => ⟨h, trivial⟩) m).last (f := fun sls => HD.mk k [] [] id dl rows pr nds sls)).mono fun x b ⟨rows, b1, c1, e1, h1, pr, b2, c2, e2, h2, n, b3, c3, e3, h3, nds, b4, c4, e4, h4, m, b5, c5, e5, h5, sls, hx, h6⟩ => by
    rw [hx]
    refine ⟨rfl, rfl, rfl, rfl, rfl, ?_, by have := h3.2; have := h4.1; show nds.length < 65536; omega, by have := h5.2; have := h6.1; show sls.length < 65536; omega⟩
    rw [e1, e2, e3, e4, e5, h1.1, h2.1, h3.1, h4.2.1, h5.1, h6.2.1, ← h4.1, ← h6.1]
    unfold bdyB
    simp only [Int.toNat_natCast, List.append_assoc]
structure HRd (x : HD) : Prop where
  dp : deep 64 x.fs
  l1 : x.fs.length < 65536
  l2 : x.ns.length < 65536
  l3 : x.nds.length < 65536
  l4 : x.sls.length < 65536
theorem hd4_num (k : Nat) (h : k < 256) : hd4 (k : Int) = numB k 1 ++ numB 1 1 ++ numB 0 1 ++ numB 0 1 := by
  unfold hd4
  simp only [numB, Nat.pow_zero, Nat.div_one, List.nil_append, Int.toNat_natCast]
  rw [Nat.mod_eq_of_lt h]
  rfl
theorem dec_head : Dec headR (fun x b => b = wholeB 64 (x.kind : Int) x.fs x.ns (x.id : Int) x.delta (x.rows : Int) (x.press : Int) x.nds x.sls ∧ HRd x) := by
  have inner : ∀ k : Nat, Dec (fun B => if k = 1 then (schR B).bind fun p => Rd.pure (HD.mk k p.1 p.2 0 false 0 0 [] []) else if k = 2 then (numR B 2).bind fun i => (flagR B).bind fun d => bodyR B k i d else bodyR B k 0 false) (fun x b => x.kind = k ∧ HRd x ∧ b = if k = 1 then schB (fldB 63) x.fs x.ns else if k = 2 then numB x.id 2 ++ flgB x.delta ++ bdyB x.rows x.press x.nds x.sls else bdyB x.rows x.press x.nds x.sls) := by
    intro k
    by_cases c1 : k = 1
    · simp only [if_pos c1]
      refine (dec_sch.last (f := fun p => HD.mk k p.1 p.2 0 false 0 0 [] [])).mono ?_
      rintro x b ⟨p, hx, hb, h1, h2, h3⟩
      rw [hx]
      exact ⟨rfl, ⟨h1, h2, h3, by show 0 < 65536; omega, by show 0 < 65536; omega⟩, hb⟩
    simp only [if_neg c1]
    by_cases c2 : k = 2
    · simp only [if_pos c2]
      have d2 := fun (i : Nat) => dec_flag.bind (f := fun B d => bodyR B k i d) (fun d => dec_body k i d)
      have d1 := (dec_num 2).bind (f := fun B i => (flagR B).bind fun d => bodyR B k i d) d2
      refine d1.mono ?_
      rintro x b ⟨i, b1, b2, e1, h1, d, b3, b4, e2, h2, g1, g2, g3, g4, g5, g6, g7, g8⟩
      refine ⟨g1, ⟨(by rw [g4]; intro f hf; exact (List.not_mem_nil hf).elim), (by rw [g4]; simp), (by rw [g5]; simp), g7, g8⟩, ?_⟩
      rw [e1, e2, h1.1, h2, g6, g2, g3, List.append_assoc]
    simp only [if_neg c2]
    refine (dec_body k 0 false).mono ?_
    rintro x b ⟨g1, g2, g3, g4, g5, g6, g7, g8⟩
    exact ⟨g1, ⟨(by rw [g4]; intro f hf; exact (List.not_mem_nil hf).elim), (by rw [g4]; simp), (by rw [g5]; simp), g7, g8⟩, g6⟩
  have d4 := fun (k : Nat) => (dec_among 0 0).bind (f := fun B _ => if k = 1 then (schR B).bind fun p => Rd.pure (HD.mk k p.1 p.2 0 false 0 0 [] []) else if k = 2 then (numR B 2).bind fun i => (flagR B).bind fun d => bodyR B k i d else bodyR B k 0 false) (fun _ => inner k)
  have d3 := fun (k : Nat) => (dec_among 0 0).bind (f := fun B _ => (amongR B 0 0).bind fun _ => if k = 1 then (schR B).bind fun p => Rd.pure (HD.mk k p.1 p.2 0 false 0 0 [] []) else if k = 2 then (numR B 2).bind fun i => (flagR B).bind fun d => bodyR B k i d else bodyR B k 0 false) (fun _ => d4 k)
  have d2 := fun (k : Nat) => (dec_among 1 1).bind (f := fun B _ => (amongR B 0 0).bind fun _ => (amongR B 0 0).bind fun _ => if k = 1 then (schR B).bind fun p => Rd.pure (HD.mk k p.1 p.2 0 false 0 0 [] []) else if k = 2 then (numR B 2).bind fun i => (flagR B).bind fun d => bodyR B k i d else bodyR B k 0 false) (fun _ => d3 k)
  have d1 := (dec_among 1 3).bind (f := fun B k => (amongR B 1 1).bind fun _ => (amongR B 0 0).bind fun _ => (amongR B 0 0).bind fun _ => if k = 1 then (schR B).bind fun p => Rd.pure (HD.mk k p.1 p.2 0 false 0 0 [] []) else if k = 2 then (numR B 2).bind fun i => (flagR B).bind fun d => bodyR B k i d else bodyR B k 0 false) d2
  refine d1.mono ?_
  rintro x b ⟨k, b1, c1, e1, ⟨hb1, hk, hk1, hk3⟩, x1, b2, c2, e2, ⟨hb2, _, h21, h22⟩, x2, b3, c3, e3, ⟨hb3, _, h31, h32⟩, x3, b4, c4, e4, ⟨hb4, _, h41, h42⟩, hkind, hrd, hc⟩
  refine ⟨?_, hrd⟩
  have y1 : x1 = 1 := by omega
  have y2 : x2 = 0 := by omega
  have y3 : x3 = 0 := by omega
  subst y1 y2 y3
  have hh : b = hd4 (k : Int) ++ c4 := by rw [hd4_num k hk, e1, e2, e3, e4, hb1, hb2, hb3, hb4]; simp
  rw [hh, hc, hkind]
  unfold wholeB
  by_cases c1 : k = 1
  · rw [if_pos c1, if_pos (by omega)]
  rw [if_neg c1, if_neg (show ¬ (k : Int) = 1 by omega)]
  by_cases c2 : k = 2
  · rw [if_pos c2, if_pos (by omega)]
    simp only [Int.toNat_natCast, List.append_assoc]
  rw [if_neg c2, if_neg (show ¬ (k : Int) = 2 by omega)]
theorem flatMap_same {α β : Type} {l : List α} {f g : α → List β} (h : ∀ x ∈ l, f x = g x) : l.flatMap f = l.flatMap g := by
  rw [List.flatMap_def, List.flatMap_def, List.map_congr_left h]
theorem fldB_more : ∀ (d : Nat) (f : FT) (d' : Nat), deep d f.kids → d ≤ d' → fldB d' f = fldB d f
  | 0, f, d', h, _ => by
    have e : f.kids = [] := h
    rw [fldB_eq, fldB_eq, e]
    cases d' <;> simp [kidB]
  | d + 1, f, 0, _, h => absurd h (by omega)
  | d + 1, f, d' + 1, h, hd => by
    show hdB f ++ f.kids.flatMap (fldB d') = hdB f ++ f.kids.flatMap (fldB d)
    congr 1
    exact flatMap_same fun x hx => fldB_more d x d' (h x hx) (by omega)
theorem whole_more {k : Int} {fs : List FT} {ns : List (ByteArray × ByteArray)} {di : Int} {dl : Bool} {rows pr : Int} {nds : List (Int × Int)} {sls : List (Int × Int × Int)} (h : deep 64 fs) : wholeB 65 k fs ns di dl rows pr nds sls = wholeB 64 k fs ns di dl rows pr nds sls := by
  unfold wholeB schB
  have e : fs.flatMap (fldB (65 - 1)) = fs.flatMap (fldB (64 - 1)) := flatMap_same fun x hx => fldB_more 63 x 64 (h x hx) (by omega)
  rw [e]
noncomputable def Yh (x : HD) : Bool := @decide (HOk (Yes 65 x.fs x.ns) (x.kind : Int) x.fs.length x.ns.length (x.id : Int) x.delta (x.rows : Int) (x.press : Int) x.nds x.sls) (Classical.propDecidable _)
theorem Yh_iff (x : HD) : HOk (Yes 65 x.fs x.ns) (x.kind : Int) x.fs.length x.ns.length (x.id : Int) x.delta (x.rows : Int) (x.press : Int) x.nds x.sls ↔ Yh x = true := by
  unfold Yh
  exact (@decide_eq_true_iff _ (Classical.propDecidable _)).symm
theorem head_read {B : List UInt8} {x : HD} {s : St} (h : headR B (0, 0) = .ok (x, s)) : HRd x ∧ s.1 ≤ B.length ∧ B = wholeB 65 (x.kind : Int) x.fs x.ns (x.id : Int) x.delta (x.rows : Int) (x.press : Int) x.nds x.sls ++ B.drop s.1 := by
  obtain ⟨h1, b, h2, h3, h4⟩ := (dec_head B (0, 0) (Nat.zero_le _)).1 x s h
  refine ⟨h4, h1, ?_⟩
  rw [whole_more h4.dp, ← h3]
  simpa using h2
theorem get_right {Y : HD → Bool} {B : List UInt8} {x : HD} (h : getR Y B = .ok x) : HRd x ∧ Y x = true ∧ B = wholeB 65 (x.kind : Int) x.fs x.ns (x.id : Int) x.delta (x.rows : Int) (x.press : Int) x.nds x.sls := by
  unfold getR at h
  cases hr : headR B (0, 0) with
  | error er => rw [hr] at h; cases h
  | ok q =>
    obtain ⟨y, s⟩ := q
    rw [hr] at h
    dsimp only at h
    obtain ⟨h1, h2, h3⟩ := head_read hr
    by_cases c : s.1 < B.length
    · rw [if_pos c] at h; cases h
    rw [if_neg c] at h
    by_cases c2 : Y y = false
    · rw [if_pos c2] at h; cases h
    rw [if_neg c2] at h
    cases h
    refine ⟨h1, by simpa using c2, ?_⟩
    rw [List.drop_of_length_le (by omega), List.append_nil] at h3
    exact h3
theorem hd_eta (x : HD) : hdOf (x.kind : Int) x.fs x.ns (x.id : Int) x.delta (x.rows : Int) (x.press : Int) x.nds x.sls = x := by
  obtain ⟨a, b, c, d, e, f, g, h, i⟩ := x
  simp [hdOf]
theorem HV9.headx {U V : World} {x : HD} {v : Value} (hv : HV9 U V x v) (hT : Tab V) (h : HRd x) : ∃ fo no vo uo cf cn vc uc, v = .agg #[.int .i64 (x.kind : Int), .slice fo x.fs.length cf, .slice no x.ns.length cn, .int .i64 (x.id : Int), .bool x.delta, .int .i64 (x.rows : Int), .int .i64 (x.press : Int), .slice vo x.nds.length vc, .slice uo x.sls.length uc] ∧ HeadAt (fun b => b < V.heap.size) 65 V fo no vo uo cf x.fs x.ns x.nds x.sls := by
  rw [← hd_eta x] at hv
  have := h.l2
  have := h.l3
  have := h.l4
  exact hv.head hT (Nat.le_refl _) (by decide) (by unfold big; omega) (by unfold big; omega) (by unfold big; omega) (by omega) (by omega) (by omega) (by omega)
theorem get_any {V : World} (hT : Tab V) {bo : Option Addr} {B : List UInt8} {bc : Nat} (hb : BytesAt V bo B) (hf : SForm bo B.length bc) (hlen : B.length ≤ 1000000000000) (hlow : ∀ b o, bo = some ⟨b, o, none⟩ → b < V.heap.size) :
    Calls Tryz.prog 26 #[.slice bo B.length bc] V (GetQ V (getR Yh B)) := by
  refine get6 bo B bc Yh V hb hf hlen hlow fun U V' hd s v hr gU gV hv => ?_
  obtain ⟨fo, no, vo, uo, cf, cn, vc, uc, rfl, hH⟩ := hv.headx ((hT.gr gU).gr gV) (head_read hr).1
  exact both_may8 hH (Yh hd) (Yh_iff hd) V' (Keeps.refl _ _)
end Go.Proofs.YtdihbfjjddmbiaaGreatDoor.Kit
namespace Go.Proofs.YtdihbfjjddmbiaaGreatDoor.Kit
open Go.RowKit Go.Shelf Go.Deep
set_option linter.unusedVariables false
attribute [local go_sem] run_store_func
structure DS where
  a : Nat
  g : Nat
  e : Int
  f : Nat
structure DAt (W : World) (p : Nat) (bo : Option Addr) (B : List UInt8) (bc : Nat) (s : DS) : Prop where
  box : W.heap[p]? = some (.cells #[.slice bo B.length bc, .int .i64 (s.a : Int), .int .i64 (s.g : Int), .int .i64 s.e, .slice none 0 0, .int .i64 (s.f : Int)] 86 (0, 0))
  bytes : BytesAt W bo B
  form : B.length ≤ bc ∧ bc ≤ 9223372036854775807 ∧ (bo = none ∧ bc = 0 ∨ ∃ b o, bo = some ⟨b, o, none⟩)
  ne : ∀ b o, bo = some ⟨b, o, none⟩ → b ≠ p
  len : B.length ≤ 1000000000000
  pos : s.a ≤ B.length
  few : s.g ≤ 257
theorem DAt.lt {W : World} {p : Nat} {bo : Option Addr} {B : List UInt8} {bc : Nat} {s : DS} (h : DAt W p bo B bc s) : p < W.heap.size := lt_of_heap h.box
theorem DAt.gr {W W' : World} {p : Nat} {bo : Option Addr} {B : List UInt8} {bc : Nat} {s : DS} (h : DAt W p bo B bc s) (k : Gr W W') : DAt W' p bo B bc s :=
  ⟨(k.block p h.lt id).trans h.box, h.bytes.gr k, h.form, h.ne, h.len, h.pos, h.few⟩
theorem DAt.cells {W : World} {p : Nat} {bo : Option Addr} {B : List UInt8} {bc : Nat} {s : DS} (h : DAt W p bo B bc s) : W.cell? ⟨p, 0, none⟩ = some (.slice bo B.length bc) ∧ W.cell? ⟨p, 1, none⟩ = some (.int .i64 (s.a : Int)) ∧ W.cell? ⟨p, 2, none⟩ = some (.int .i64 (s.g : Int)) ∧ W.cell? ⟨p, 3, none⟩ = some (.int .i64 s.e) ∧ W.cell? ⟨p, 4, none⟩ = some (.slice none 0 0) ∧ W.cell? ⟨p, 5, none⟩ = some (.int .i64 (s.f : Int)) := by simp [World.cell?, h.box]
theorem DAt.wrong {W : World} {p : Nat} {bo : Option Addr} {B : List UInt8} {bc : Nat} {s : DS} (h : DAt W p bo B bc s) (e : Int) (k : Nat) : DAt (((W.setCell ⟨p, 3, none⟩ (.int .i64 e)).setCell ⟨p, 4, none⟩ (.slice none 0 0)).setCell ⟨p, 5, none⟩ (.int .i64 (k : Int))) p bo B bc { s with e := e, f := k } := by
  have kp : Keeps W (((W.setCell ⟨p, 3, none⟩ (.int .i64 e)).setCell ⟨p, 4, none⟩ (.slice none 0 0)).setCell ⟨p, 5, none⟩ (.int .i64 (k : Int))) (fun z => z = p) := (((Keeps.refl W (fun z => z = p)).setCell (p := ⟨p, 3, none⟩) (fun _ => rfl) _).setCell (p := ⟨p, 4, none⟩) (fun _ => rfl) _).setCell (p := ⟨p, 5, none⟩) (fun _ => rfl) _
  refine ⟨?_, h.bytes.kp (p := p) kp h.ne, h.form, h.ne, h.len, h.pos, h.few⟩
  have h0 := heap_setCell_same W p 3 _ _ (.int .i64 e) h.box
  have h1 := heap_setCell_same _ p 4 _ _ (.slice none 0 0) h0
  have h2 := heap_setCell_same _ p 5 _ _ (.int .i64 (k : Int)) h1
  rw [h2]
  simp
theorem DAt.at_ {W : World} {p : Nat} {bo : Option Addr} {B : List UInt8} {bc : Nat} {s : DS} (h : DAt W p bo B bc s) {a' : Nat} (ha : a' ≤ B.length) : DAt (W.setCell ⟨p, 1, none⟩ (.int .i64 (a' : Int))) p bo B bc { s with a := a' } := by
  refine ⟨?_, h.bytes.kp (p := p) ((Keeps.refl W (fun z => z = p)).setCell (p := ⟨p, 1, none⟩) (fun _ => rfl) _) h.ne, h.form, h.ne, h.len, ha, h.few⟩
  rw [heap_setCell_same W p 1 _ _ _ h.box]
  simp
theorem DAt.more {W : World} {p : Nat} {bo : Option Addr} {B : List UInt8} {bc : Nat} {s : DS} (h : DAt W p bo B bc s) (hg : s.g < 257) : DAt (W.setCell ⟨p, 2, none⟩ (.int .i64 ((s.g + 1 : Nat) : Int))) p bo B bc { s with g := s.g + 1 } := by
  refine ⟨?_, h.bytes.kp (p := p) ((Keeps.refl W (fun z => z = p)).setCell (p := ⟨p, 2, none⟩) (fun _ => rfl) _) h.ne, h.form, h.ne, h.len, h.pos, hg⟩
  rw [heap_setCell_same W p 2 _ _ _ h.box]
  simp
def DC {α : Type} (p : Nat) (bo : Option Addr) (B : List UInt8) (bc : Nat) (F : Nat) (args : Array Value) (r : DS → α × DS) (V : World → World → α → Value → Prop) : Prop :=
  ∀ W s, DAt W p bo B bc s → Calls Tryz.prog F args W fun e w' => ∃ v, e = .returned v ∧ V W w' (r s).1 v ∧ DAt w' p bo B bc (r s).2 ∧ Keeps W w' (fun z => z = p)
def takeX (B : List UInt8) (n : Nat) (s : DS) : List UInt8 × DS :=
  if s.e ≠ 0 then ([], s) else if B.length < s.a + n then ([], { s with e := 51, f := s.a }) else ((B.drop s.a).take n, { s with a := s.a + n })
theorem wrong19 {p : Nat} {bo : Option Addr} {B : List UInt8} {bc : Nat} {W : World} {s : DS} (h : DAt W p bo B bc s) (hs : s.e = 0) (e : Int) (k : Nat) :
    Calls Tryz.prog 45 #[.pointer (some ⟨p, 0, none⟩), .int .i64 e, .int .i64 (k : Int)] W fun x w' => x = .returned (.tuple #[]) ∧ DAt w' p bo B bc { s with e := e, f := k } ∧ Keeps W w' (fun z => z = p) := by
  obtain ⟨c0, c1, c2, c3, c4, c5⟩ := h.cells
  have f3 := frz h.box 3
  have f4 := frz h.box 4
  have f5 := frz h.box 5
  rw [hs] at c3
  have HD := hidM (h.wrong e k)
  have kp : Keeps W (((W.setCell ⟨p, 3, none⟩ (.int .i64 e)).setCell ⟨p, 4, none⟩ (.slice none 0 0)).setCell ⟨p, 5, none⟩ (.int .i64 (k : Int))) (fun z => z = p) := (((Keeps.refl W (fun z => z = p)).setCell (p := ⟨p, 3, none⟩) (fun _ => rfl) _).setCell (p := ⟨p, 4, none⟩) (fun _ => rfl) _).setCell (p := ⟨p, 5, none⟩) (fun _ => rfl) _
  have HK := hidM kp
  clear h kp hs
  go_enter Tryz.func45, Tryz.ntmps45
  go_wp2
  go_end0
  exact ⟨rfl, HD.out, HK.out⟩
theorem slice_mid {W : World} {b o n cap a m : Nat} {l : List UInt8} (h : BytesAt W (some ⟨b, o, none⟩) l) : BytesAt W (some ⟨b, o + a, none⟩) ((l.drop a).take m) := fun hn => by
  have hl : l ≠ [] := fun e => by rw [e] at hn; simp at hn
  obtain ⟨b', o', e, hc⟩ := h hl
  cases e
  refine ⟨b, o + a, rfl, fun i hi => ?_⟩
  simp at hi
  have := hc (a + i) (by omega)
  rw [Nat.add_assoc, this]
  simp
def TkV (W w' : World) (l : List UInt8) (v : Value) : Prop := ∃ lo lc, v = .slice lo l.length lc ∧ BytesAt w' lo l
theorem take32 (p : Nat) (bo : Option Addr) (B : List UInt8) (bc n : Nat) (hn : n ≤ 4294967296) : DC p bo B bc 61 #[.pointer (some ⟨p, 0, none⟩), .int .i64 (n : Int)] (takeX B n) TkV := by
  intro W s h
  obtain ⟨c0, c1, c2, c3, c4, c5⟩ := h.cells
  have hp := h.pos
  have hl := h.len
  have HW := hidM h
  unfold takeX
  by_cases he : s.e = 0
  · rw [if_neg (by simp [he])]
    obtain ⟨m, hm⟩ : ∃ m, m = B.length := ⟨_, rfl⟩
    obtain ⟨a, ha⟩ : ∃ a, a = s.a := ⟨_, rfl⟩
    rw [← hm] at c0 hp hl
    rw [← ha] at c1 hp
    rw [he] at c3
    have Hm := hidM hm
    have Ha := hidM ha
    have He := hidM he
    have HC : Hid (W.drew.cell? ⟨p, 0, none⟩ = some (.slice bo m bc) ∧ W.drew.cell? ⟨p, 1, none⟩ = some (.int .i64 (a : Int))) := ⟨c0, c1⟩
    have HQd : Hid (Gr W W.drew) := (Keeps.refl W (fun _ => False)).drew
    have HQ2 : Hid (Gr W W.drew.drew) := HQd.out.drew
    have hwr : IntKind.i64.wrap ((m : Int) - (a : Int)) = (m : Int) - (a : Int) := by rw [IntKind.wrap_i64]; omega
    by_cases hs : B.length < s.a + n
    · rw [if_pos hs]
      have hgt : (m : Int) - (a : Int) < (n : Int) := by rw [Hm.out, Ha.out]; omega
      clear h hm ha he hs
      go_enter Tryz.func61, Tryz.ntmps61
      go_wp2
      go_region_held3 (fun w' => w'.cell? ⟨p, 0, none⟩ = some (.slice bo m bc) ∧ w'.cell? ⟨p, 1, none⟩ = some (.int .i64 (a : Int))) (go_keep) (fail)
      all_goals
        go_wp2_with (go_at_call 45; refine Hid.out ?_)
        unfold Hid
        refine Calls.mono (wrong19 (HW.out.gr HQd.out) He.out 51 a) ?_
        rintro e w' ⟨rfl, hD, hk⟩
        have HD := hidM hD
        have HK := hidM hk
        clear hD hk
        go_wp2_with fail
        go_ret
        rw [← Ha.out]
        rw [Ha.out] at HD
        exact ⟨_, rfl, ⟨none, 0, rfl, fun h => absurd rfl h⟩, by rw [Ha.out]; exact HD.out, (HQd.out.mono fun _ _ h => h.elim).tr HK.out⟩
    rw [if_neg hs]
    have hgt : ¬ (m : Int) - (a : Int) < (n : Int) := by rw [Hm.out, Ha.out]; omega
    have hwa : IntKind.i64.wrap ((a : Int) + (n : Int)) = (a : Int) + (n : Int) := by rw [IntKind.wrap_i64]; omega
    have hf := h.form
    have hb := h.bytes
    rw [← hm] at hf
    have hE : Hid (W.drew.ownsRow 0 5 1 (.slice none 0 0) 0 []) := World.ownsRow_nil _ _ _ _
    rcases hf.2.2 with ⟨rfl, hz⟩ | ⟨b, o, rfl⟩
    · have hm0 : m = 0 := by have := hf.1; omega
      have ha0 : a = 0 := by omega
      have hn0 : n = 0 := by rw [← hm, ← ha] at hs; omega
      subst hm0 ha0 hn0 hz
      have hsrc : Hid (∀ V, Src Tryz.prog 1 30 (.slice none 0 0) 0 [] V) := fun V => Src.ofNil (w := V) Tryz.underlying30 0
      clear h he hs hf hb hm ha hp hn hl hwr hwa hgt
      have hw0 : IntKind.i64.wrap 0 = 0 := rfl
      go_enter Tryz.func61, Tryz.ntmps61
      go_wp2
      go_region_held3 (fun w' => w'.cell? ⟨p, 0, none⟩ = some (.slice none 0 0) ∧ w'.cell? ⟨p, 1, none⟩ = some (.int .i64 ((0 : Nat) : Int))) (go_keep) (fail)
      all_goals go_wp2
      all_goals
        go_region_law (refine step_append_any _ rfl (.const (.slice none 0 0)) (.tmp 44) 30 30 rfl 5 (.int .u8 0) 1 Tryz.underlying30 info5 rfl _ 0 [] rfl (World.ownsRow_nil _ _ _ _) _ 0 [] rfl (hsrc.out _) (by omega) (by omega) ?_; intro v' w1 hown hgrow hblk; obtain ⟨ao', cap', rfl⟩ := own_form1 hown; have HO := hidM hown; have HGr := hidM hgrow; have HBk : Hid (∀ g, (Value.slice ao' (0 + 0) cap').ownBlock = some g → W.heap.size ≤ g) := fun g e => hblk.elim (fun q => by have h' : (none : Option Nat) = some g := q.symm.trans e; cases h') (fun q => Nat.le_trans HQ2.out.size (q g e)); clear hown hgrow hblk)
      all_goals
        have g1 : Gr W w1 := HQ2.out.trans (Keeps.ofGrown HGr.out) fun z _ h => by have h' : (none : Option Nat) = some z := h; cases h'
        have hD := HW.out.gr g1
        obtain ⟨d0, d1, d2, d3, d4, d5⟩ := hD.cells
        rw [← Ha.out] at d1
        have f1 := frz hD.box 1
        have HD := hidM (hD.at_ (a' := 0) (Nat.zero_le _))
        have HG1 := hidM g1
        clear g1 hD HO HGr hsrc
        go_wp2_with fail
        go_ret
        have kp := (Keeps.refl w1 (fun z => z = p)).setCell (p := ⟨p, 1, none⟩) (fun _ => rfl) (.int .i64 0)
        rw [← Ha.out]
        exact ⟨_, rfl, ⟨ao', cap', rfl, fun h => absurd (by simp) h⟩, HD.out, (HG1.out.mono fun _ _ h => h.elim).tr kp⟩
    obtain ⟨ad, had⟩ : ∃ ad, ad = if bc = a then (some ⟨b, o, none⟩ : Option Addr) else some ⟨b, o + a, none⟩ := ⟨_, rfl⟩
    have hsrc : Hid (∀ V c, Gr W V → Src Tryz.prog 1 30 (.slice ad n c) n (bv ((B.drop a).take n)) V) := fun V c gV => by
      have hlen : ((B.drop a).take n).length = n := by simp; rw [← Hm.out]; omega
      by_cases hba : bc = a
      · rw [if_pos hba] at had
        have hn0 : n = 0 := by have := hf.1; rw [← hm, ← ha] at hs; omega
        subst hn0
        rw [had]
        have := src_bytes (W := V) (bo := some ⟨b, o, none⟩) (bs := []) (cap := c) (fun h => absurd rfl h)
        simpa [bv] using this
      rw [if_neg hba] at had
      rw [had]
      have := src_bytes (cap := c) (slice_mid (n := 0) (cap := 0) (a := a) (m := n) (hb.gr gV))
      rw [hlen] at this
      exact this
    have hlenT : Hid (((B.drop a).take n).length = n) := by show _ = _; simp; rw [← Hm.out]; rw [← hm, ← ha] at hs; omega
    have hadR := had.symm
    have hcap := hf.1
    have hs1 : (0 : Int) ≤ (a : Int) + (n : Int) := by omega
    have hs2 : (a : Int) + (n : Int) ≤ (bc : Int) := by rw [← hm] at hs; rw [← ha] at hs; omega
    have hs3 : ((a : Int) + (n : Int)).toNat = a + n := by omega
    have Hs : Hid (a + n ≤ m) := by rw [← hm, ← ha] at hs; show a + n ≤ m; omega
    clear h hm ha he hs hf hb had
    go_enter Tryz.func61, Tryz.ntmps61
    go_wp2
    go_region_held3 (fun w' => w'.cell? ⟨p, 0, none⟩ = some (.slice (some ⟨b, o, none⟩) m bc) ∧ w'.cell? ⟨p, 1, none⟩ = some (.int .i64 (a : Int))) (go_keep) (fail)
    all_goals go_wp2
    all_goals
      go_region_law (refine step_append_any _ rfl (.const (.slice none 0 0)) (.tmp 44) 30 30 rfl 5 (.int .u8 0) 1 Tryz.underlying30 info5 rfl _ 0 [] rfl (World.ownsRow_nil _ _ _ _) _ n (bv ((B.drop a).take n)) rfl (hsrc.out _ _ HQ2.out) (by omega) (by omega) ?_; intro v' w1 hown hgrow hblk; obtain ⟨ao', cap', rfl⟩ := own_form1 hown; have HO := hidM hown; have HGr := hidM hgrow; have HBk : Hid (∀ g, (Value.slice ao' (0 + n) cap').ownBlock = some g → W.heap.size ≤ g) := fun g e => hblk.elim (fun q => by have h' : (none : Option Nat) = some g := q.symm.trans e; cases h') (fun q => Nat.le_trans HQ2.out.size (q g e)); clear hown hgrow hblk)
    all_goals
      have hown := HO.out
      rw [Nat.zero_add, List.nil_append] at hown
      have g1 : Gr W w1 := HQ2.out.trans (Keeps.ofGrown HGr.out) fun z _ h => by have h' : (none : Option Nat) = some z := h; cases h'
      obtain ⟨lo, lc, hve, hlb, -, -⟩ := own_bytes hown hlenT.out.symm
      have hD := HW.out.gr g1
      obtain ⟨d0, d1, d2, d3, d4, d5⟩ := hD.cells
      rw [← Ha.out] at d1
      have f1 := frz hD.box 1
      have HD := hidM (hD.at_ (a' := a + n) (by rw [← Hm.out]; exact Hs.out))
      have HV : Hid (∃ V2, w1.setCell ⟨p, 1, none⟩ (.int .i64 ((a + n : Nat) : Int)) = V2) := ⟨_, rfl⟩
      have HG1 := hidM g1
      have HL := hidM (And.intro hve hlb)
      have hz : (((a + n : Nat) : Int)) = (a : Int) + (n : Int) := by omega
      rw [hz] at HD
      clear hown g1 hve hlb hD hz HV HO HGr hsrc
      go_wp2_with fail
      go_ret
      have ea := Ha.out
      have hne : ∀ c u, lo = some ⟨c, u, none⟩ → c ≠ p := fun c u e => by
        have h1 := HL.out.1
        rw [e] at h1
        have h2 := HBk.out c (by have h5 : (Value.slice ao' n cap').ownBlock = some c := by rw [h1]; rfl
                                 rw [Nat.zero_add]; exact h5)
        have h3 := HW.out.lt
        omega
      have kp := (Keeps.refl w1 (fun z => z = p)).setCell (p := ⟨p, 1, none⟩) (fun _ => rfl) (.int .i64 ((a : Int) + (n : Int)))
      rw [← ea]
      refine ⟨_, rfl, ⟨lo, lc, HL.out.1, HL.out.2.kp kp hne⟩, HD.out, (HG1.out.mono fun _ _ h => h.elim).tr kp⟩
  have he' : (s.e == 0) = false := by simp [he]
  rw [if_pos (by simpa using he)]
  clear h
  go_enter Tryz.func61, Tryz.ntmps61
  go_wp2
  go_ret
  exact ⟨_, rfl, ⟨none, 0, rfl, fun h => absurd rfl h⟩, HW.out, Keeps.refl _ _⟩
end Go.Proofs.YtdihbfjjddmbiaaGreatDoor.Kit
