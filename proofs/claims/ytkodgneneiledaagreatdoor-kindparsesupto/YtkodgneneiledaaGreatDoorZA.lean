import Derived.Test.YtkodgneneiledaaGreatDoorUU
import Derived.Recover
import Derived.Defers
import Derived.Test.YtkodgneneiledaaGreatDoorLK
import Derived.Test.YtkodgneneiledaaGreatDoorMB
set_option maxRecDepth 100000
set_option maxHeartbeats 4000000
namespace Go.Proofs.YtkodgneneiledaaGreatDoor.Kit
open Go.RowKit Go.Shelf Go.Deep
set_option linter.unusedVariables false
attribute [local go_sem] run_store_func
theorem catch_idle (q r t : Addr) (w : World) :
    CallsD Tryz.prog 48 #[.pointer (some q), .pointer (some r), .pointer (some t)] .returning w fun e u' w' => e = .returned (.tuple #[]) ∧ u' = .returning ∧ w' = w := by
  refine callsD_of_wpS Tryz.func48 rfl fun c₀ cs hu => ?_
  apply wpS_seq
  apply wpS_region
  simp [wpOpsS, go_sem, recoverD, hu, Tryz.ntmps48, Exit.thenS]
  refine wpS_of_wp ?_
  go_wp2
  cases c₀
  simp_all [bodyPostS, results, Tryz.results48]
theorem three_end {V : World} {b : Nat} {y0 y1 z x : Value} (p0 p1 q r : Value) (v2 : V.heap[b]? = some (.cells #[y0, y1] 27 (0, 0))) (v1 : V.heap[b + 1]? = some (.cells #[z] 28 (0, 0))) (v3 : V.heap[b + 1 + 1]? = some (.cells #[x] 3 (0, 0))) :
    ((((V.setCell ⟨b, 0, none⟩ p0).setCell ⟨b, 1, none⟩ p1).setCell ⟨b + 1, 0, none⟩ q).setCell ⟨b + 1 + 1, 0, none⟩ r).heap[b]? = some (.cells #[p0, p1] 27 (0, 0)) ∧
    ((((V.setCell ⟨b, 0, none⟩ p0).setCell ⟨b, 1, none⟩ p1).setCell ⟨b + 1, 0, none⟩ q).setCell ⟨b + 1 + 1, 0, none⟩ r).heap[b + 1]? = some (.cells #[q] 28 (0, 0)) ∧
    ((((V.setCell ⟨b, 0, none⟩ p0).setCell ⟨b, 1, none⟩ p1).setCell ⟨b + 1, 0, none⟩ q).setCell ⟨b + 1 + 1, 0, none⟩ r).heap[b + 1 + 1]? = some (.cells #[r] 3 (0, 0)) ∧
    Keeps V ((((V.setCell ⟨b, 0, none⟩ p0).setCell ⟨b, 1, none⟩ p1).setCell ⟨b + 1, 0, none⟩ q).setCell ⟨b + 1 + 1, 0, none⟩ r) (fun z => z = b ∨ z = b + 1 ∨ z = b + 1 + 1) := by
  have a1 := put2_box p0 p1 v2
  have a2 : (((V.setCell ⟨b, 0, none⟩ p0).setCell ⟨b, 1, none⟩ p1).setCell ⟨b + 1, 0, none⟩ q).heap[b + 1]? = some (.cells #[q] 28 (0, 0)) := heap_setCell_same _ (b + 1) 0 _ _ q ((set_other _ (by omega)).trans ((set_other _ (by omega)).trans v1))
  have a3 := heap_setCell_same (((V.setCell ⟨b, 0, none⟩ p0).setCell ⟨b, 1, none⟩ p1).setCell ⟨b + 1, 0, none⟩ q) (b + 1 + 1) 0 _ _ r ((set_other _ (by omega)).trans ((set_other _ (by omega)).trans ((set_other _ (by omega)).trans v3)))
  refine ⟨(set_other _ (by omega)).trans ((set_other _ (by omega)).trans a1), (set_other _ (by omega)).trans a2, a3, ?_⟩
  exact ((((Keeps.refl V (fun z => z = b ∨ z = b + 1 ∨ z = b + 1 + 1)).setCell (p := ⟨b, 0, none⟩) (fun _ => .inl rfl) _).setCell (p := ⟨b, 1, none⟩) (fun _ => .inl rfl) _).setCell (p := ⟨b + 1, 0, none⟩) (fun _ => .inr (.inl rfl)) _).setCell (p := ⟨b + 1 + 1, 0, none⟩) (fun _ => .inr (.inr rfl)) _
theorem catch_stuck (b o : Nat) (older : List PanicEntry) (w : World) (y0 y1 z x : Value) (h2 : w.heap[b]? = some (.cells #[y0, y1] 27 (0, 0))) (h1 : w.heap[b + 1]? = some (.cells #[z] 28 (0, 0))) (h3 : w.heap[b + 1 + 1]? = some (.cells #[x] 3 (0, 0))) :
    CallsD Tryz.prog 48 #[.pointer (some ⟨b, 0, none⟩), .pointer (some ⟨b + 1, 0, none⟩), .pointer (some ⟨b + 1 + 1, 0, none⟩)] (.panicking ({ v := stuckV o, recovered := false } :: older)) w fun e u' w' => e = .returned (.tuple #[]) ∧ u' = .panicking ({ v := stuckV o, recovered := true } :: older) ∧ w'.heap[b]? = some (.cells #[.slice none 0 0, .slice none 0 0] 27 (0, 0)) ∧ w'.heap[b + 1]? = some (.cells #[.int .i64 8] 28 (0, 0)) ∧ w'.heap[b + 1 + 1]? = some (.cells #[.int .i64 (o : Int)] 3 (0, 0)) ∧ Keeps w w' (fun z => z = b ∨ z = b + 1 ∨ z = b + 1 + 1) := by
  unfold stuckV
  have hta : ∀ (v : Value) (W : World), (Instr.typeAssert (.iface 85 v) 20 85 true).run Tryz.prog W = .ok (.tuple #[v, .bool true]) W := fun v W => rfl
  have a0 : w.cell? ⟨b, 0, none⟩ = some y0 := by simp [World.cell?, h2]
  have a1 : w.cell? ⟨b, 1, none⟩ = some y1 := by simp [World.cell?, h2]
  have a2 : w.cell? ⟨b + 1, 0, none⟩ = some z := by simp [World.cell?, h1]
  have a3 : w.cell? ⟨b + 1 + 1, 0, none⟩ = some x := by simp [World.cell?, h3]
  have f0 := frz h2 0
  have f1 := frz h2 1
  have f2 := frz h1 0
  have f3 := frz h3 0
  have n1 : ¬ b + 1 = b := by omega
  have n2 : ¬ b + 1 + 1 = b := by omega
  have n3 : ¬ b + 1 + 1 = b + 1 := by omega
  have HE := hidP (three_end (.slice none 0 0) (.slice none 0 0) (.int .i64 8) (.int .i64 (o : Int)) h2 h1 h3)
  clear h2 h1 h3
  refine callsD_of_wpS Tryz.func48 rfl fun c₀ cs hu => ?_
  change Code.wpS _ _ _ { tmps := #[.pointer (some ⟨b, 0, none⟩), .pointer (some ⟨b + 1, 0, none⟩), .pointer (some ⟨b + 1 + 1, 0, none⟩), undef, undef, undef, undef, undef, undef, undef, undef, undef, undef, undef], defers := [] } _ _
  apply wpS_seq
  apply wpS_region
  simp [wpOpsS, go_sem, recoverD, hu, Exit.thenS]
  refine wpS_of_wp ?_
  go_wp2
  (try simp only [Exit.inBlock])
  (try go_wp2_with fail)
  (try simp only [bodyPostS])
  refine ⟨trivial, _, rfl, _, results_none (fn := Tryz.f48) rfl _ _ _, rfl, rfl, ?_⟩
  have HE' := HE.out
  exact HE'
theorem part14 (p : Nat) (s : ByteArray) : PnC p s D0 22 #[.pointer (some ⟨p, 0, none⟩)] (schP s.data.toList) (SV p) := by
  intro W a g hN hd
  obtain ⟨V0, hV0⟩ : ∃ V0, W.alloc (.cells #[.slice none 0 0, .slice none 0 0] 27) = V0 := ⟨_, rfl⟩
  have g0' : Gr W V0 := by rw [← hV0]; exact gr_alloc W _
  have HBx0 : Hid (V0.heap[W.heap.size]? = some (.cells #[.slice none 0 0, .slice none 0 0] 27 (0, 0))) := by show _ = _; rw [← hV0]; exact heap_alloc_new W _
  have HQ := hidP (schema15 p s V0 a g (hN.gr g0') hd)
  have HG0 : Hid (KpN W V0 p) := Gr.n p g0'
  have HNe : Hid (p < W.heap.size) := hN.lt
  have Hpz : Hid (p ≠ 0) := by obtain ⟨_, _, h⟩ := hN; exact h.pz
  obtain ⟨b, hb⟩ : ∃ b, b = W.heap.size := ⟨_, rfl⟩
  have HV := hidP hV0
  clear hN hd g0' hV0
  go_enter Tryz.func22, Tryz.ntmps22
  go_wp2_with (go_at_call 23; refine Hid.out ?_)
  unfold Hid
  rw [HV.out, ← hb]
  rw [← hb] at HBx0
  have HB := hidP hb
  clear HV hb
  cases hr : schP s.data.toList (a, g) with
  | error o =>
    rw [hr] at HQ
    have Hr := hidP hr
    clear hr
    refine Calls.mono HQ.out ?_
    rintro e' U ⟨hk, rfl⟩
    have HK := hidP (HG0.out.tr hk)
    clear hk
    go_wp2_with fail
    exact ⟨rfl, PnQ.err HK.out (by first | exact rfl | exact Hr.out)⟩
  | ok q =>
    obtain ⟨x, a1, g1⟩ := q
    rw [hr] at HQ
    have Hr := hidP hr
    clear hr
    refine Calls.mono HQ.out ?_
    rintro e' U ⟨hk, v, rfl, ⟨fo, fc, no, nc, rfl, hfc, hrow, hns⟩, hR⟩
    have hbx := (hk.blk (lt_of_heap HBx0.out) (by have := HNe.out; have := HB.out; omega) (IntsB.of HBx0.out (by decide))).trans HBx0.out
    have HBx := hidP hbx
    have HK := hidP (HG0.out.tr hk)
    have HR := hidP hR
    have HL := hidP (And.intro hfc (And.intro hrow hns))
    have HLt : Hid (b < V0.heap.size ∧ W.heap.size ≤ V0.heap.size) := ⟨lt_of_heap HBx0.out, HG0.out.size⟩
    have z0 := frz hbx 0
    have z1 := frz hbx 1
    have t0 : U.cell? ⟨b, 0, none⟩ = some (.slice none 0 0) := by simp [World.cell?, hbx]
    have t1 : U.cell? ⟨b, 1, none⟩ = some (.slice none 0 0) := by simp [World.cell?, hbx]
    clear hk hR hbx hfc hrow hns HBx0
    go_wp2_with fail
    have hb3 := put2_box (.slice fo x.1.length fc) (.slice no x.2.length nc) HBx.out
    have k3 := put2_keeps U b (.slice fo x.1.length fc) (.slice no x.2.length nc)
    have kW : KpN W _ p := HK.out.trans k3 fun z hz h => by have := HB.out; omega
    (try simp only [Exit.inBlock, Exit.then])
    exact bodyPost_ret (results_cell26 rfl rfl hb3 (by kernel_rfl)) rfl (PnQ.ok kW (by first | exact rfl | exact Hr.out) ⟨fo, fc, no, nc, rfl, HL.out.1, (HL.out.2.1.nb (fun z hz => k3.block z hz.2.1 (by have := hz.1; have := HLt.out; omega)) k3.size).low HLt.out.2, (HL.out.2.2.blk k3 fun z h hz hS => by have := HLt.out; omega).low HLt.out.2⟩ (HR.out.kept k3 fun z h => by rw [h]; exact ⟨by have := HNe.out; have := HB.out; omega, by have := HNe.out; have := HB.out; omega, IntsB.of HBx.out (by decide)⟩))
theorem com_len {α : Type} {T : List UInt8} {item : Pr α} (h : ∀ s x s1, item s = .ok (x, s1) → s.1 < s1.1) : ∀ n acc s y s1, comP T item n acc s = .ok (y, s1) → y.length + s.1 ≤ acc.length + s1.1
  | 0, acc, s, y, s1, e => by cases e; exact Nat.le_refl _
  | n + 1, acc, s, y, s1, e => by
    rw [comP] at e
    obtain ⟨b, s2, e1, e2⟩ := Pr.inv e
    have a := (fw_takes T 44 s b s2 e1).1
    (try dsimp only at e2)
    split at e2
    · obtain ⟨x, s3, e3, e4⟩ := Pr.inv e2
      have b := h _ _ _ e3
      have c := com_len h n (acc ++ [x]) s3 y s1 e4
      rw [List.length_append, List.length_singleton] at c
      omega
    cases e2; omega
theorem sch_notes {T : List UInt8} {s s1 : Ps} {l : List FT} {ns : List (ByteArray × ByteArray)} (h : schP T s = .ok ((l, ns), s1)) : ns.length ≤ s1.1 := by
  have hn : ∀ (l : List FT) s (y : List FT × List (ByteArray × ByteArray)) s1, notesP T l s = .ok (y, s1) → y.2.length ≤ s1.1 := fun l s y s1 e => by
    unfold notesP at e
    obtain ⟨b, s2, e1, e2⟩ := Pr.inv e
    (try dsimp only at e2)
    split at e2
    · obtain ⟨z, s3, e3, e4⟩ := Pr.inv e2
      unfold manyP at e3
      obtain ⟨x, s4, e5, e6⟩ := Pr.inv e3
      have h1 : s2.1 < s4.1 := note_lt (a := s2.1) (g := s2.2) e5
      have h2 := com_len (fun s x s1 h => note_lt (a := s.1) (g := s.2) h) _ _ _ _ _ e6
      cases e4
      simp only [List.length_singleton] at h2
      show z.length ≤ s1.1
      omega
    cases e2; exact Nat.zero_le _
  unfold schP at h
  obtain ⟨c, s2, e1, e2⟩ := Pr.inv h
  (try dsimp only at e2)
  split at e2
  · obtain ⟨x, s3, e3, e4⟩ := Pr.inv e2
    exact hn _ _ _ _ e4
  exact hn _ _ _ _ e2
theorem field_fnE {T : List UInt8} : ∀ d e s x s1, d ≤ e → fieldP T d s = .ok (x, s1) → s1.2.length = s.2.length + nP e [x]
  | 0, e, s, x, s1, _, h => by cases h
  | d + 1, 0, s, x, s1, hd, h => absurd hd (by omega)
  | d + 1, e + 1, s, x, s1, hd, h => by
    rw [fieldP] at h
    obtain ⟨nm, s2, e1, e2⟩ := Pr.inv h
    obtain ⟨t, s3, e3, e4⟩ := Pr.inv e2
    obtain ⟨b, s4, e5, e6⟩ := Pr.inv e4
    have a1 := name_fw e1
    have a3 := fn_typ (T := T) (d := e) (rec := fieldP T d) (fun s x s1 h => ⟨Nat.le_of_lt (field_fn d s x s1 h).1, field_fnE d e s x s1 (by omega) h⟩) s2 t s3 e3
    have a5 := fw_takes T 63 s3 b s4 e5
    cases e6
    have a32 : s3.2.length = s2.2.length + nP e t.2.kids := a3.2
    rw [nP_one, a5.2, a32, a1.2.1]
    show _ = _ + (1 + nP e t.2.kids)
    omega
theorem sch_names {T : List UInt8} {s s1 : Ps} {l : List FT} {ns : List (ByteArray × ByteArray)} (h : schP T s = .ok ((l, ns), s1)) : s1.2.length = s.2.length + nP (D0 + 1) l := by
  have hn : ∀ (l : List FT) s (y : List FT × List (ByteArray × ByteArray)) s1, notesP T l s = .ok (y, s1) → s1.2 = s.2 ∧ y.1 = l := fun l s y s1 e => by
    unfold notesP at e
    obtain ⟨b, s2, e1, e2⟩ := Pr.inv e
    have a := fw_takes T 124 s b s2 e1
    (try dsimp only at e2)
    split at e2
    · obtain ⟨z, s3, e3, e4⟩ := Pr.inv e2
      have c := fw_many (T := T) (fw_note T) s2 z s3 e3
      cases e4
      exact ⟨c.2.trans a.2, rfl⟩
    cases e2; exact ⟨a.2, rfl⟩
  unfold schP at h
  obtain ⟨c, s2, e1, e2⟩ := Pr.inv h
  have a := (fw_peek T s c s2 e1).2
  (try dsimp only at e2)
  split at e2
  · obtain ⟨x, s3, e3, e4⟩ := Pr.inv e2
    have h1 := (fn_many (T := T) (d := D0 + 1) (item := fieldP T D0) (fun s x s1 h => ⟨Nat.le_of_lt (field_fn D0 s x s1 h).1, field_fnE D0 (D0 + 1) s x s1 (by omega) h⟩) _ _ _ e3).2
    have h2 := hn _ _ _ _ e4
    have h3 : l = x := h2.2
    rw [h2.1, h3, ← a]
    exact h1
  have h2 := hn _ _ _ _ e2
  have h3 : l = [] := h2.2
  rw [h2.1, h3, a, nP_nil]
  rfl
theorem node_way : ∀ (d : Nat) (l : List FT) (path : List Nat) (q : Bool) (x : LS), x ∈ nodes d l path q → path.length < x.path.length
  | 0, l, path, q, x, h => by cases h
  | d + 1, l, path, q, x, h => by
    rw [nodes] at h
    obtain ⟨i, hi, hx⟩ := List.mem_flatMap.1 h
    rcases List.mem_cons.1 hx with rfl | hx
    · simp
    have := node_way d _ _ _ x hx
    simp at this
    omega
theorem notes_of {W w' : World} {ns : List (ByteArray × ByteArray)} {no : Option Addr} {nc : Nat} (h : LAt W w' 70 2 ncel ns no nc) (hl : ns.length ≤ big) : NotesAt w' no ns := by
  refine ⟨hl, fun hn => ?_⟩
  rcases h.own.2 with ⟨e, h0⟩ | ⟨g, cap, cur, e, h1, h2, h3, h4⟩
  · exact absurd (List.length_eq_zero_iff.1 h0) hn
  cases e
  refine ⟨g, 0, rfl, fun i hi => ?_⟩
  have hf : ∀ (l : List (ByteArray × ByteArray)) (i : Nat) (h : i < l.length), (l.flatMap ncel)[i * 2]? = some (.string l[i].1) ∧ (l.flatMap ncel)[i * 2 + 1]? = some (.string l[i].2) := by
    intro l
    induction l with
    | nil => intro i h; simp at h
    | cons x l ih =>
      intro i h
      cases i with
      | zero => exact ⟨rfl, rfl⟩
      | succ i =>
        have := ih i (by simpa using h)
        rw [List.flatMap_cons]
        constructor
        · rw [List.getElem?_append_right (by show 2 ≤ _; omega), show (i + 1) * 2 - (ncel x).length = i * 2 by show _ - 2 = _; omega]
          simpa using this.1
        rw [List.getElem?_append_right (by show 2 ≤ _; omega), show (i + 1) * 2 + 1 - (ncel x).length = i * 2 + 1 by show _ - 2 = _; omega]
        simpa using this.2
  have h5 := hf ns i hi
  rw [Nat.zero_add]
  exact ⟨(h.own.cellAt (i * 2) (by omega)).trans h5.1, (h.own.cellAt (i * 2 + 1) (by omega)).trans h5.2⟩
def whP {α : Type} (T : List UInt8) (r : Pr α) : Pr α := r.bind fun x => (endP T).bind fun _ => Pr.pure x
abbrev RSch := Pr (List FT × List (ByteArray × ByteArray))
def ParBad (s : ByteArray) (r : RSch) (er at_ : Int) : Prop :=
  (65536 < s.size ∧ er = 4 ∧ at_ = 65536) ∨ (s.size ≤ 65536 ∧ ∃ o : Nat, whP s.data.toList r (0, []) = .error o ∧ er = 8 ∧ at_ = (o : Int)) ∨
  (s.size ≤ 65536 ∧ ∃ l ns a g, whP s.data.toList r (0, []) = .ok ((l, ns), (a, g)) ∧
    (((listsE l.length ns).1 ≠ 0 ∧ er = (listsE l.length ns).1 ∧ at_ = 0) ∨
     ((listsE l.length ns).1 = 0 ∧ ∃ L x, L ++ [x] <+: nodes (D0 + 1) l [] false ∧ AllR L ∧ wrongE x L.length (tkL L) ≠ 0 ∧ er = wrongE x L.length (tkL L) ∧ at_ = ((g.getD L.length 0 : Nat) : Int))))
def ParQ (W : World) (s : ByteArray) (r : RSch) (e : Ending) (w' : World) : Prop :=
  Gr W w' ∧ ((∃ er at_ : Int, er ≠ 0 ∧ ParBad s r er at_ ∧ e = .returned (.tuple #[.agg #[.slice none 0 0, .slice none 0 0], .int .i64 er, .int .i64 at_])) ∨
    (∃ l ns a g fo fc no nc, s.size ≤ 65536 ∧ whP s.data.toList r (0, []) = .ok ((l, ns), (a, g)) ∧ (listsE l.length ns).1 = 0 ∧ AllR (nodes (D0 + 1) l [] false) ∧ ns.length ≤ big ∧
      e = .returned (.tuple #[.agg #[.slice fo l.length fc, .slice no ns.length nc], .int .i64 0, .int .i64 0]) ∧ l.length ≤ fc ∧ RowAt (fun z => W.heap.size ≤ z ∧ z < w'.heap.size) w' (D0 + 1) fo l ∧ LAt W w' 70 2 ncel ns no nc))
structure B3 (U : World) (b : Nat) (y0 y1 z x : Value) : Prop where
  sb : U.heap[b]? = some (.cells #[y0, y1] 27 (0, 0))
  eb : U.heap[b + 1]? = some (.cells #[z] 28 (0, 0))
  ab : U.heap[b + 1 + 1]? = some (.cells #[x] 3 (0, 0))
theorem B3.kp {U U' : World} {b : Nat} {y0 y1 z x : Value} {S : Nat → Prop} (h : B3 U b y0 y1 z x) (k : Keeps U U' S) (hS : ∀ q, S q → b + 1 + 1 < q) : B3 U' b y0 y1 z x :=
  ⟨(k.block b (lt_of_heap h.sb) fun e => by have := hS b e; omega).trans h.sb, (k.block (b + 1) (lt_of_heap h.eb) fun e => by have := hS _ e; omega).trans h.eb, (k.block (b + 1 + 1) (lt_of_heap h.ab) fun e => by have := hS _ e; omega).trans h.ab⟩
theorem B3.kpn {U U' : World} {b : Nat} {y0 y1 z x : Value} (h : B3 U b y0 y1 z x) (k : KpN U U' (b + 1 + 1 + 1)) : B3 U' b y0 y1 z x := h.kp k fun q e => e.elim (fun e => by omega) fun e => by have := e.1; omega
theorem results_read {fn : Func} {t u r : Tmp} {tmps : Array Value} {b : Nat} {y0 y1 z x : Value} {w : World} (h : fn.results = #[.cell t 27, .cell u 28, .cell r 3]) (ht : tmps.getD t undef = .pointer (some ⟨b, 0, none⟩)) (hu : tmps.getD u undef = .pointer (some ⟨b + 1, 0, none⟩)) (hr : tmps.getD r undef = .pointer (some ⟨b + 1 + 1, 0, none⟩)) (hb : B3 w b y0 y1 z x) :
    (results fn tmps).run Tryz.prog w = .ok (.tuple #[.agg #[y0, y1], z, x]) w := by
  have c0 : w.cell? ⟨b, 0, none⟩ = some y0 := by simp [World.cell?, hb.sb]
  have c0b : w.cell? ⟨b, 1, none⟩ = some y1 := by simp [World.cell?, hb.sb]
  have c1 : w.cell? ⟨b + 1, 0, none⟩ = some z := by simp [World.cell?, hb.eb]
  have c2 : w.cell? ⟨b + 1 + 1, 0, none⟩ = some x := by simp [World.cell?, hb.ab]
  unfold results
  rw [h]
  simp only [Array.mapM_eq_mapM_toList, List.mapM_cons, List.mapM_nil, ht, hu, hr]
  simp [asAddr, loadVar, go_sem, c0, c0b, c1, c2]
theorem read_stuck {W U : World} {b o : Nat} {y0 y1 z x : Value} {s : ByteArray} {r : RSch} {tmps : Array Value} (hb : b = W.heap.size) (hB : B3 U b y0 y1 z x) (hg : Gr W U) (h4 : tmps.getD 4 undef = .pointer (some ⟨b, 0, none⟩)) (h5 : tmps.getD 5 undef = .pointer (some ⟨b + 1, 0, none⟩)) (h6 : tmps.getD 6 undef = .pointer (some ⟨b + 1 + 1, 0, none⟩)) (hs : s.size ≤ 65536) (hR : whP s.data.toList r (0, []) = .error o) :
    Leaves Tryz.prog Tryz.f21 tmps (ParQ W s r) [{ target := .fn (.func 48) #[.pointer (some ⟨b, 0, none⟩), .pointer (some ⟨b + 1, 0, none⟩), .pointer (some ⟨b + 1 + 1, 0, none⟩)], args := #[] }] (.panicking [{ v := stuckV o, recovered := false }]) U := by
  refine leaves_cons (f := 48) (args := #[.pointer (some ⟨b, 0, none⟩), .pointer (some ⟨b + 1, 0, none⟩), .pointer (some ⟨b + 1 + 1, 0, none⟩)]) (by simp) (by simp [go_sem]) ?_
  refine (catch_stuck b o [] U _ _ _ _ hB.sb hB.eb hB.ab).mono ?_
  rintro e u' w' ⟨rfl, rfl, q1, q2, q3, k⟩
  refine ⟨_, results_read rfl h4 h5 h6 ⟨q1, q2, q3⟩, ?_⟩
  exact ⟨hg.trans k fun j hj h => by omega, .inl ⟨8, o, by decide, .inr (.inl ⟨hs, o, hR, rfl, rfl⟩), rfl⟩⟩
def fldS (T : List UInt8) : RSch := (fieldP T D0).bind fun f => Pr.pure ([f], [])
theorem fldS_notes {T : List UInt8} {l : List FT} {ns : List (ByteArray × ByteArray)} {s s1 : Ps} (h : fldS T s = .ok ((l, ns), s1)) : ns.length ≤ s1.1 := by
  unfold fldS at h
  obtain ⟨f, s2, e1, e2⟩ := Pr.inv h
  cases e2
  exact Nat.zero_le _
theorem fldS_names {T : List UInt8} {l : List FT} {ns : List (ByteArray × ByteArray)} {s s1 : Ps} (h : fldS T s = .ok ((l, ns), s1)) : s1.2.length = s.2.length + nP (D0 + 1) l := by
  unfold fldS at h
  obtain ⟨f, s2, e1, e2⟩ := Pr.inv h
  cases e2
  exact field_fnE D0 (D0 + 1) _ _ _ (by omega) e1
theorem row_one {p : Nat} {W U : World} {d g : Nat} {x : FT} {ko : Option Addr} {kc : Nat} (hg : U.heap[g]? = some (.cells #[.string x.name, .bool x.nul, .int .i64 x.kind, .int .i64 x.width, .int .i64 x.id, .int .i64 x.index, .slice ko x.kids.length kc] 37 (0, 0))) (hW : W.heap.size ≤ g) (hk : x.kids.length ≤ kc) (hr : RowAt (NB p W U) U d ko x.kids) : RowAt (NB p W U) U (d + 1) (some ⟨g, 0, none⟩) [x] := by
  refine ⟨by simp [big], fun _ => ⟨g, 0, rfl, ⟨hW, lt_of_heap hg, IntsB.of hg (by decide)⟩, fun i hi => ?_⟩⟩
  have hi0 : i = 0 := by simpa using hi
  subst hi0
  refine ⟨ko, kc, ?_, hk, hr⟩
  exact ⟨by simp [World.cell?, hg], by simp [World.cell?, hg], by simp [World.cell?, hg], by simp [World.cell?, hg], by simp [World.cell?, hg], by simp [World.cell?, hg], by simp [World.cell?, hg]⟩
theorem part32 (p : Nat) (s : ByteArray) : PnC p s D0 32 #[.pointer (some ⟨p, 0, none⟩)] (fldS s.data.toList) (SV p) := by
  intro W a g hN hd
  obtain ⟨R, hRes⟩ : ∃ R, R = fldS s.data.toList (a, g) := ⟨_, rfl⟩
  rw [← hRes]
  have HRes := hidP hRes
  obtain ⟨V0, hV0⟩ : ∃ V0, W.alloc (.cells #[.slice none 0 0, .slice none 0 0] 27) = V0 := ⟨_, rfl⟩
  have g0' : Gr W V0 := by rw [← hV0]; exact gr_alloc W _
  have HBx0 : Hid (V0.heap[W.heap.size]? = some (.cells #[.slice none 0 0, .slice none 0 0] 27 (0, 0))) := by show _ = _; rw [← hV0]; exact heap_alloc_new W _
  have HQ := hidP (field_all p s D0 V0 a g (hN.gr g0') hd)
  have HG0 : Hid (KpN W V0 p) := Gr.n p g0'
  have HNe : Hid (p < W.heap.size) := hN.lt
  obtain ⟨b, hb⟩ : ∃ b, b = W.heap.size := ⟨_, rfl⟩
  have HV := hidP hV0
  clear hN hd g0' hV0 hRes
  go_enter Tryz.func32, Tryz.ntmps32
  go_wp2_with (go_at_call 34; refine Hid.out ?_)
  unfold Hid
  rw [HV.out, ← hb]
  rw [← hb] at HBx0
  have HB := hidP hb
  clear HV hb
  cases hr : fieldP s.data.toList D0 (a, g) with
  | error o =>
    rw [hr] at HQ
    have HE : Hid (R = .error o) := by show R = _; rw [HRes.out]; exact Pr.bind_err hr
    clear hr
    refine Calls.mono HQ.out ?_
    rintro e' U ⟨hk, rfl⟩
    have HK := hidP (HG0.out.tr hk)
    clear hk
    go_wp2_with fail
    exact ⟨rfl, PnQ.err HK.out HE.out⟩
  | ok q =>
    obtain ⟨x, a1, g1⟩ := q
    rw [hr] at HQ
    have HE : Hid (R = .ok (([x], []), (a1, g1))) := by show R = _; rw [HRes.out]; exact Pr.bind_ok hr
    clear hr
    refine Calls.mono HQ.out ?_
    rintro e' U ⟨hk, v, rfl, ⟨ko, kc, rfl, hkc, hrow⟩, hR⟩
    have hbx := (hk.blk (lt_of_heap HBx0.out) (by have := HNe.out; have := HB.out; omega) (IntsB.of HBx0.out (by decide))).trans HBx0.out
    have HBx := hidP hbx
    have HK := hidP (HG0.out.tr hk)
    have HR := hidP hR
    have HL := hidP (And.intro hkc hrow)
    have HLt : Hid (b < V0.heap.size ∧ W.heap.size ≤ V0.heap.size ∧ V0.heap.size ≤ U.heap.size) := ⟨lt_of_heap HBx0.out, HG0.out.size, hk.size⟩
    clear hk hR hbx hkc hrow HBx0 HQ
    go_wp2_with (go_at_call 33; refine Hid.out ?_)
    unfold Hid
    refine Calls.mono (alone_any x.name x.nul x.kind x.width x.id x.index ko x.kids.length kc U) ?_
    rintro e' U2 ⟨gb, rfl, gU, hgb, hcells⟩
    have hbx2 := (gU.block b (lt_of_heap HBx.out) id).trans HBx.out
    have HBx2 := hidP hbx2
    have HK2 := hidP (HK.out.tr (Gr.n p gU))
    have HR2 := hidP (HR.out.gr gU)
    have HC := hidP (And.intro hgb hcells)
    have HL2 : Hid (x.kids.length ≤ kc ∧ RowAt (NB p V0 U2) U2 D0 ko x.kids) := ⟨HL.out.1, HL.out.2.nb (fun z hz => gU.block z hz.2.1 id) gU.size⟩
    have z0 := frz hbx2 0
    have z1 := frz hbx2 1
    have t0 : U2.cell? ⟨b, 0, none⟩ = some (.slice none 0 0) := by simp [World.cell?, hbx2]
    have t1 : U2.cell? ⟨b, 1, none⟩ = some (.slice none 0 0) := by simp [World.cell?, hbx2]
    clear gU hgb hcells hbx2 HBx HK HR HL
    go_wp2_with fail
    have hb3 := put2_box (.slice (some ⟨gb, 0, none⟩) 1 1) (.slice none 0 0) HBx2.out
    have k3 := put2_keeps U2 b (.slice (some ⟨gb, 0, none⟩) 1 1) (.slice none 0 0)
    have kW : KpN W _ p := HK2.out.trans k3 fun z hz h => by have := HB.out; omega
    have hrow := row_one (p := p) (W := V0) HC.out.2 (by have := HC.out.1; have := HLt.out; omega) HL2.out.1 HL2.out.2
    (try simp only [Exit.inBlock, Exit.then])
    exact bodyPost_ret (results_cell26 rfl rfl hb3 (by kernel_rfl)) rfl (PnQ.ok kW HE.out ⟨some ⟨gb, 0, none⟩, 1, none, 0, rfl, Nat.le_refl _, (hrow.nb (fun z hz => k3.block z hz.2.1 (by have := hz.1; have := HLt.out; omega)) k3.size).low HLt.out.2.1, LAt.nil _ _ _ _ _⟩ (HR2.out.kept k3 fun z h => by rw [h]; exact ⟨by have := HNe.out; have := HB.out; omega, by have := HNe.out; have := HB.out; omega, IntsB.of HBx2.out (by decide)⟩))
end Go.Proofs.YtkodgneneiledaaGreatDoor.Kit
