import Derived.Test.YtcfdkadhclickaaDoorXT
namespace Go.Proofs.YtcfdkadhclickaaDoor.Kit
open Go.RowKit Go.Shelf Go.Deep
set_option linter.unusedVariables false
attribute [local go_sem] run_store_func

set_option maxRecDepth 100000 in
set_option maxHeartbeats 2000000 in
theorem choice76_yes (f3 f4 f5 : Int) (v0 : Bool) (v2 : ByteArray) (vc : Nat) (j n ca kb ko eb eo : Nat) (k0 : ByteArray) (k1 : Bool) (k2 k3 k4 k5 : Int) (kp : Option Addr) (kn kc : Nat) (e0 : Bool) (e1 : Int) (e2 : ByteArray) (ep : Option Addr) (en ec : Nat) (w : World) (r : Bool) (hj : j < n) (hn : n ≤ 1000000000000) (g0 : w.cell? ⟨kb, ko + j * 7, none⟩ = some (.string k0)) (g1 : w.cell? ⟨kb, ko + j * 7 + 1, none⟩ = some (.bool k1)) (g2 : w.cell? ⟨kb, ko + j * 7 + 2, none⟩ = some (.int .i64 k2)) (g3 : w.cell? ⟨kb, ko + j * 7 + 3, none⟩ = some (.int .i64 k3)) (g4 : w.cell? ⟨kb, ko + j * 7 + 4, none⟩ = some (.int .i64 k4)) (g5 : w.cell? ⟨kb, ko + j * 7 + 5, none⟩ = some (.int .i64 k5)) (g6 : w.cell? ⟨kb, ko + j * 7 + 6, none⟩ = some (.slice kp kn kc)) (d0 : w.cell? ⟨eb, eo, none⟩ = some (.bool e0)) (d1 : w.cell? ⟨eb, eo + 1, none⟩ = some (.int .i64 e1)) (d2 : w.cell? ⟨eb, eo + 2, none⟩ = some (.string e2)) (d3 : w.cell? ⟨eb, eo + 3, none⟩ = some (.slice ep en ec)) (hF : Ans 49 #[.agg #[.string k0, .bool k1, .int .i64 k2, .int .i64 k3, .int .i64 k4, .int .i64 k5, .slice kp kn kc], .agg #[.bool e0, .int .i64 e1, .string e2, .slice ep en ec]] r w) :
    Ans 76 #[.agg #[.int .i64 18, .int .i64 f3, .int .i64 f4, .int .i64 f5, .slice (some ⟨kb, ko, none⟩) n ca], .agg #[.bool v0, .int .i64 (j : Int), .string v2, .slice (some ⟨eb, eo, none⟩) 1 vc]] r w := by
  intro W g
  obtain ⟨V, hV⟩ : ∃ V, (W.alloc (.cells #[.int .i64 18, .int .i64 f3, .int .i64 f4, .int .i64 f5, .slice (some ⟨kb, ko, none⟩) n ca] 24)).alloc (.cells #[.bool v0, .int .i64 (j : Int), .string v2, .slice (some ⟨eb, eo, none⟩) 1 vc] 29) = V := ⟨_, rfl⟩
  have gr : Gr W V := by rw [← hV]; exact (gr_alloc W _).alloc _
  have b5 : B5 V W.heap.size 18 f3 f4 f5 (some ⟨kb, ko, none⟩) n ca := by
    unfold B5
    rw [← hV]
    exact (Below.heap_alloc (W.alloc _) _ W.heap.size (by simp)).trans (heap_alloc_new W _)
  have b4 : B4 V (W.heap.size + 1) v0 (j : Int) v2 (some ⟨eb, eo, none⟩) 1 vc := by
    unfold B4
    rw [← hV]
    have e := heap_alloc_new (W.alloc (.cells #[.int .i64 18, .int .i64 f3, .int .i64 f4, .int .i64 f5, .slice (some ⟨kb, ko, none⟩) n ca] 24)) (.cells #[.bool v0, .int .i64 (j : Int), .string v2, .slice (some ⟨eb, eo, none⟩) 1 vc] 29)
    rw [show (W.alloc (.cells #[.int .i64 18, .int .i64 f3, .int .i64 f4, .int .i64 f5, .slice (some ⟨kb, ko, none⟩) n ca] 24)).heap.size = W.heap.size + 1 by simp] at e
    exact e
  obtain ⟨q0, q1, q2, q3, q4⟩ := b5.cells
  obtain ⟨p0, p1, p2, p3⟩ := b4.cells
  have gg : Gr w V := g.trans gr (fun _ _ h => h)
  have HF := hidM hF
  have HG := hidM gr
  have HGd : Hid (Gr w V.drew) := gg.drew
  have hjI : (j : Int) < (n : Int) := by omega
  have hj0 : (0 : Int) ≤ (j : Int) := by omega
  have HC : Hid (V.drew.cell? ⟨W.heap.size, 4, none⟩ = some (.slice (some ⟨kb, ko, none⟩) n ca) ∧ V.drew.cell? ⟨W.heap.size + 1, 1, none⟩ = some (.int .i64 (j : Int)) ∧ V.drew.cell? ⟨W.heap.size + 1, 3, none⟩ = some (.slice (some ⟨eb, eo, none⟩) 1 vc) ∧ V.drew.cell? ⟨eb, eo, none⟩ = some (.bool e0) ∧ V.drew.cell? ⟨eb, eo + 1, none⟩ = some (.int .i64 e1) ∧ V.drew.cell? ⟨eb, eo + 2, none⟩ = some (.string e2) ∧ V.drew.cell? ⟨eb, eo + 3, none⟩ = some (.slice ep en ec) ∧ V.drew.cell? ⟨kb, ko + j * 7, none⟩ = some (.string k0) ∧ V.drew.cell? ⟨kb, ko + j * 7 + 1, none⟩ = some (.bool k1) ∧ V.drew.cell? ⟨kb, ko + j * 7 + 2, none⟩ = some (.int .i64 k2) ∧ V.drew.cell? ⟨kb, ko + j * 7 + 3, none⟩ = some (.int .i64 k3) ∧ V.drew.cell? ⟨kb, ko + j * 7 + 4, none⟩ = some (.int .i64 k4) ∧ V.drew.cell? ⟨kb, ko + j * 7 + 5, none⟩ = some (.int .i64 k5) ∧ V.drew.cell? ⟨kb, ko + j * 7 + 6, none⟩ = some (.slice kp kn kc)) := ⟨q4, p1, p3, gr_c gg d0, gr_c gg d1, gr_c gg d2, gr_c gg d3, gr_c gg g0, gr_c gg g1, gr_c gg g2, gr_c gg g3, gr_c gg g4, gr_c gg g5, gr_c gg g6⟩
  clear b4 b5 gr g hF gg
  go_enter Tryd.func76, Tryd.ntmps76
  go_wp2
  clear hV p0 p1 p2 p3 q0 q1 q2 q3 q4
  go_region_held3 (fun w' => w'.cell? ⟨W.heap.size, 4, none⟩ = some (.slice (some ⟨kb, ko, none⟩) n ca) ∧ w'.cell? ⟨W.heap.size + 1, 1, none⟩ = some (.int .i64 (j : Int)) ∧ w'.cell? ⟨W.heap.size + 1, 3, none⟩ = some (.slice (some ⟨eb, eo, none⟩) 1 vc) ∧ w'.cell? ⟨eb, eo, none⟩ = some (.bool e0) ∧ w'.cell? ⟨eb, eo + 1, none⟩ = some (.int .i64 e1) ∧ w'.cell? ⟨eb, eo + 2, none⟩ = some (.string e2) ∧ w'.cell? ⟨eb, eo + 3, none⟩ = some (.slice ep en ec) ∧ w'.cell? ⟨kb, ko + j * 7, none⟩ = some (.string k0) ∧ w'.cell? ⟨kb, ko + j * 7 + 1, none⟩ = some (.bool k1) ∧ w'.cell? ⟨kb, ko + j * 7 + 2, none⟩ = some (.int .i64 k2) ∧ w'.cell? ⟨kb, ko + j * 7 + 3, none⟩ = some (.int .i64 k3) ∧ w'.cell? ⟨kb, ko + j * 7 + 4, none⟩ = some (.int .i64 k4) ∧ w'.cell? ⟨kb, ko + j * 7 + 5, none⟩ = some (.int .i64 k5) ∧ w'.cell? ⟨kb, ko + j * 7 + 6, none⟩ = some (.slice kp kn kc)) (first | with_reducible exact HC.out | with_reducible exact ⟨gr_c HE.out (HC.out.1), gr_c HE.out (HC.out.2.1), gr_c HE.out (HC.out.2.2.1), gr_c HE.out (HC.out.2.2.2.1), gr_c HE.out (HC.out.2.2.2.2.1), gr_c HE.out (HC.out.2.2.2.2.2.1), gr_c HE.out (HC.out.2.2.2.2.2.2.1), gr_c HE.out (HC.out.2.2.2.2.2.2.2.1), gr_c HE.out (HC.out.2.2.2.2.2.2.2.2.1), gr_c HE.out (HC.out.2.2.2.2.2.2.2.2.2.1), gr_c HE.out (HC.out.2.2.2.2.2.2.2.2.2.2.1), gr_c HE.out (HC.out.2.2.2.2.2.2.2.2.2.2.2.1), gr_c HE.out (HC.out.2.2.2.2.2.2.2.2.2.2.2.2.1), gr_c HE.out (HC.out.2.2.2.2.2.2.2.2.2.2.2.2.2)⟩) ((go_at_call 49; refine Calls.mono (HF.out _ HGd.out) ?_; rintro e w2 ⟨rfl, hg2⟩; have HE := hidM hg2; clear hg2))
  all_goals
    go_wp2_with fail
    go_ret
    exact ⟨rfl, HG.out.drew.trans HE.out (fun _ _ h => h)⟩
set_option maxRecDepth 100000 in
set_option maxHeartbeats 2000000 in
theorem choice76_no (f3 f4 f5 : Int) (v0 : Bool) (v1 : Int) (v2 : ByteArray) (vo : Option Addr) (m vc : Nat) (ao : Option Addr) (n ca : Nat) (w : World) (hn : n ≤ 1000000000000) (hm : m ≤ 1000000000000) (hc : m ≠ 1 ∨ (m = 1 ∧ v1 < 0) ∨ (m = 1 ∧ 0 ≤ v1 ∧ (n : Int) ≤ v1)) :
    Ans 76 #[.agg #[.int .i64 18, .int .i64 f3, .int .i64 f4, .int .i64 f5, .slice ao n ca], .agg #[.bool v0, .int .i64 v1, .string v2, .slice vo m vc]] false w := by
  intro W g
  have HG : Hid (∀ a b, Gr W ((W.alloc a).alloc b).drew) := fun a b => ((gr_alloc W a).alloc b).drew
  clear g
  rcases hc with h1 | ⟨rfl, h1⟩ | ⟨rfl, h1, h2⟩
  · have h1 : ((m : Int) == 1) = false := by simp; omega
    go_enter Tryd.func76, Tryd.ntmps76
    go_wp2
    go_region
    all_goals
      go_wp2
      go_ret
      exact ⟨rfl, HG.out _ _⟩
  · have h1 : decide (0 ≤ v1) = false := by simp; omega
    go_enter Tryd.func76, Tryd.ntmps76
    go_wp2
    go_region
    all_goals
      go_wp2
      go_ret
      exact ⟨rfl, HG.out _ _⟩
  · have h1 : decide (0 ≤ v1) = true := by simp; omega
    have h2 : decide (v1 < (n : Int)) = false := by simp; omega
    go_enter Tryd.func76, Tryd.ntmps76
    go_wp2
    go_region
    all_goals
      go_wp2
      go_ret
      exact ⟨rfl, HG.out _ _⟩
set_option maxRecDepth 100000 in
theorem null76 (f3 f4 f5 : Int) (ao : Option Addr) (n ca : Nat) (v0 : Bool) (v1 : Int) (v2 : ByteArray) (vo : Option Addr) (m vc : Nat) (w : World) :
    Ans 76 #[.agg #[.int .i64 1, .int .i64 f3, .int .i64 f4, .int .i64 f5, .slice ao n ca], .agg #[.bool v0, .int .i64 v1, .string v2, .slice vo m vc]] false w := by
  intro W g
  have HG : Hid (∀ a b, Gr W ((W.alloc a).alloc b)) := fun a b => (gr_alloc W a).alloc b
  clear g
  go_enter Tryd.func76, Tryd.ntmps76
  go_wp2
  go_ret
  exact ⟨rfl, HG.out _ _⟩
end Go.Proofs.YtcfdkadhclickaaDoor.Kit
namespace Go.Proofs.YtcfdkadhclickaaDoor.Kit
open Go.RowKit Go.Shelf Go.Deep
set_option linter.unusedVariables false
attribute [local go_sem] run_store_func

/-! ### listed 76 at an empty list -/
set_option maxRecDepth 100000 in
set_option maxHeartbeats 2000000 in
theorem list76_nil15 (f3 f4 f5 : Int) (ao : Option Addr) (n ca : Nat) (v0 : Bool) (v2 : ByteArray) (vo : Option Addr) (vc : Nat) (w : World) :
    Ans 76 #[.agg #[.int .i64 15, .int .i64 f3, .int .i64 f4, .int .i64 f5, .slice ao n ca], .agg #[.bool v0, .int .i64 0, .string v2, .slice vo 0 vc]] true w := by
  intro W g
  have HG : Hid (∀ a b, Gr W ((W.alloc a).alloc b)) := fun a b => (gr_alloc W a).alloc b
  clear g
  go_enter Tryd.func76, Tryd.ntmps76
  go_wp2
  go_loop [6] (fun i => i = .int .i64 0) (fun i => 0)
  case atStart => rfl
  case round =>
    obtain rfl := hrel
    go_wp2
    go_ret
    exact ⟨rfl, HG.out _ _⟩
set_option maxRecDepth 100000 in
set_option maxHeartbeats 2000000 in
theorem list76_nil17 (f3 f4 f5 : Int) (ao : Option Addr) (ca : Nat) (v0 : Bool) (v2 : ByteArray) (vo : Option Addr) (vc : Nat) (w : World) :
    Ans 76 #[.agg #[.int .i64 17, .int .i64 f3, .int .i64 f4, .int .i64 f5, .slice ao 0 ca], .agg #[.bool v0, .int .i64 0, .string v2, .slice vo 0 vc]] true w := by
  intro W g
  have HG : Hid (∀ a b, Gr W ((W.alloc a).alloc b)) := fun a b => (gr_alloc W a).alloc b
  clear g
  go_enter Tryd.func76, Tryd.ntmps76
  go_wp2
  go_loop [6] (fun i => i = .int .i64 0) (fun i => 0)
  case atStart => rfl
  case round =>
    obtain rfl := hrel
    go_wp2
    go_ret
    exact ⟨rfl, HG.out _ _⟩
end Go.Proofs.YtcfdkadhclickaaDoor.Kit
namespace Go.Proofs.YtcfdkadhclickaaDoor.Kit
open Go.RowKit Go.Shelf Go.Deep
set_option linter.unusedVariables false

/-! ### the document's fits 49, all kinds; all depths -/
theorem all_true {p : VT → Bool} {l : List VT} (h : ∀ k (hk : k < l.length), p l[k] = true) : l.all p = true := by
  rw [List.all_eq_true]
  intro x hx
  obtain ⟨i, hi, rfl⟩ := List.mem_iff_getElem.1 hx
  exact h i hi
theorem all_false {p : VT → Bool} {l : List VT} {k : Nat} (hk : k < l.length) (h : p l[k] = false) : l.all p = false := by
  rw [Bool.eq_false_iff]
  intro h2
  rw [List.all_eq_true] at h2
  rw [h2 _ (List.getElem_mem hk)] at h
  cases h
theorem allP2_true {p : FT → VT → Bool} : ∀ {fs : List FT} {l : List VT}, l.length = fs.length → (∀ k (hf : k < fs.length) (hk : k < l.length), p fs[k] l[k] = true) → allP2 p fs l = true
  | [], _, _, _ => rfl
  | _ :: _, [], e, _ => rfl
  | f :: fs, x :: xs, e, h => by
    rw [allP2, Bool.and_eq_true]
    exact ⟨h 0 (by simp) (by simp), allP2_true (by simpa using e) fun k hf hk => h (k + 1) (by simp; omega) (by simp; omega)⟩
theorem allP2_false {p : FT → VT → Bool} : ∀ {fs : List FT} {l : List VT} {k : Nat} (hf : k < fs.length) (hk : k < l.length), p fs[k] l[k] = false → allP2 p fs l = false
  | [], _, _, hf, _, _ => by simp at hf
  | _ :: _, [], _, _, hk, _ => by simp at hk
  | f :: fs, x :: xs, 0, _, _, h => by
    have : p f x = false := h
    rw [allP2, this]; rfl
  | f :: fs, x :: xs, k + 1, hf, hk, h => by
    rw [allP2, allP2_false (k := k) (by simpa using hf) (by simpa using hk) h, Bool.and_false]
theorem zip_get (r : FT → VT → Bool) (fs : List FT) (l : List VT) (k : Nat) (hf : k < fs.length) (hk : k < l.length) : ((fs.zip l).map fun q => r q.1 q.2).getD k true = r fs[k] l[k] := by
  have h : k < ((fs.zip l).map fun q => r q.1 q.2).length := by simp; omega
  rw [List.getD_eq_getElem?_getD, List.getElem?_eq_getElem h]
  simp
theorem width16 {f : FT} (h : tableB f = true) (k : f.kind = 16) : 1 ≤ f.width ∧ f.width ≤ 4096 := by
  unfold tableB widthB at h
  rw [k] at h
  simp at h
  omega
theorem doc_step (S : Nat → Prop) (D d : Nat) (w : World) (hS : ∀ b, S b → b < w.heap.size) (f : FT) (ao : Option Addr) (ca : Nat) (r : FT → VT → Bool) (hf : RowAt S w (D + 1) ao f.kids) (hT : tableB f = true) (h16 : f.kind = 16 → 1 ≤ f.width ∧ f.width ≤ 4096)
    (h72 : Ans 72 #[.agg #[.string f.name, .bool f.nul, .int .i64 f.kind, .int .i64 f.width, .int .i64 f.id, .int .i64 f.index, .slice ao f.kids.length ca]] f.nul w)
    (hkid : ∀ (g : FT) (go : Option Addr) (gc : Nat), g ∈ f.kids → g.kids.length ≤ gc → RowAt S w D go g.kids → ∀ (v : VT) (vo : Option Addr) (vc : Nat), VOk v → VRow S w d vo v.list → Ans 49 #[.agg #[.string g.name, .bool g.nul, .int .i64 g.kind, .int .i64 g.width, .int .i64 g.id, .int .i64 g.index, .slice go g.kids.length gc], .agg #[.bool v.nul, .int .i64 v.num, .string v.text, .slice vo v.list.length vc]] (r g v) w)
    (v : VT) (vo : Option Addr) (vc : Nat) (hok : VOk v) (hv : VRow S w d vo v.list) :
    Ans 49 #[.agg #[.string f.name, .bool f.nul, .int .i64 f.kind, .int .i64 f.width, .int .i64 f.id, .int .i64 f.index, .slice ao f.kids.length ca], .agg #[.bool v.nul, .int .i64 v.num, .string v.text, .slice vo v.list.length vc]] (docB r f v) w := by
  have n1 : (v.num == 0) = true ↔ v.num = 0 := beq_iff_eq
  have n2 : v.text.toList.isEmpty = true ↔ v.text.size = 0 := by
    rw [ByteArray.toList_eq, List.isEmpty_iff_length_eq_zero]
    simp
  have n3 : ((v.list.length : Int) == 0) = true ↔ v.list = [] := by
    rw [beq_iff_eq, ← List.length_eq_zero_iff]
    omega
  have hvl : v.list.length ≤ 1000000000000 := hv.len
  have hfl : f.kids.length ≤ 1000000000000 := hf.len
  have dec : ∀ {P : Prop} [Decidable P] {b : Bool}, (b = true ↔ P) → decide P = b := fun {P} _ b h => by
    rw [Bool.eq_iff_iff, decide_eq_true_iff]; exact h.symm
  unfold docB
  cases hn : v.nul with
  | true =>
    rw [if_pos rfl]
    exact doc_null _ _ _ _ _ _ _ _ _ _ _ _ _ _ w _ _ _ _ rfl rfl rfl h72 (dec (by simp only [Bool.and_eq_true, n1, n2, n3, and_assoc]))
  | false =>
    have hk := tab_kind hT
    rw [if_neg Bool.false_ne_true]
    by_cases k12 : f.kind = 12
    · rw [if_pos k12, k12]
      exact doc12 _ _ _ _ _ _ _ _ _ _ _ _ _ w _ _ _ _ rfl rfl rfl hok.2 _ rfl (dec (by simp only [Bool.and_eq_true, n1, n3]; exact ⟨fun h => ⟨h.1.2, h.2, h.1.1⟩, fun h => ⟨⟨h.2.2, h.1⟩, h.2.1⟩⟩))
    rw [if_neg k12]
    by_cases k13 : f.kind = 13
    · rw [if_pos k13, k13]
      exact doc13 _ _ _ _ _ _ _ _ _ _ _ _ _ w _ _ _ _ rfl rfl rfl (dec (by simp only [Bool.and_eq_true, n1, n3]))
    rw [if_neg k13]
    by_cases k14 : f.kind = 14
    · rw [if_pos k14, k14]
      exact doc14 _ _ _ _ _ _ _ _ _ _ _ _ _ w _ _ _ _ rfl rfl rfl _ rfl (dec (by simp only [Bool.and_eq_true, n1, n3, beq_iff_eq, and_assoc]))
    rw [if_neg k14]
    have kid : f.kids ≠ [] → ∃ kb ko, ao = some ⟨kb, ko, none⟩ ∧ S kb ∧ ∃ go gc, CellsAt w kb ko f.kids.head! go gc ∧ f.kids.head!.kids.length ≤ gc ∧ RowAt S w D go f.kids.head!.kids := by
      intro hne
      obtain ⟨h0, he⟩ := head_get hne
      obtain ⟨kb, ko, rfl, hb, hi⟩ := hf.2 hne
      obtain ⟨go, gc, hc, hle, hrow⟩ := hi 0 h0
      rw [he h0] at hc hle hrow
      simp only [Nat.zero_mul, Nat.add_zero] at hc
      exact ⟨kb, ko, rfl, hb, go, gc, hc, hle, hrow⟩
    have hmem : f.kids ≠ [] → f.kids.head! ∈ f.kids := fun h => by
      cases hk : f.kids with
      | nil => exact absurd hk h
      | cons a b => exact List.mem_cons_self
    by_cases k19 : f.kind = 19 ∨ f.kind = 20
    · rw [if_neg (by omega), if_neg (by omega), if_neg (by omega), if_neg (by omega), if_pos k19]
      have hne := tab_kid hT (by omega)
      obtain ⟨kb, ko, rfl, _, go, gc, hc, hle, hrow⟩ := kid hne
      have hF := hkid _ _ _ (hmem hne) hle hrow v vo vc hok hv
      rw [hn] at hF
      rcases k19 with k | k
      · rw [k]
        exact doc19 _ _ _ _ _ _ _ _ _ _ _ _ _ _ _ _ _ _ _ _ _ _ _ w _ (head_get hne).1 hc.c0 hc.c1 hc.c2 hc.c3 hc.c4 hc.c5 hc.c6 hF
      · rw [k]
        exact doc20 _ _ _ _ _ _ _ _ _ _ _ _ _ _ _ _ _ _ _ _ _ _ _ w _ (head_get hne).1 hc.c0 hc.c1 hc.c2 hc.c3 hc.c4 hc.c5 hc.c6 hF
    by_cases hnum : 2 ≤ f.kind ∧ f.kind ≤ 11
    · rw [if_neg (by omega), if_neg (by omega), if_neg (by omega), if_neg (by omega), if_neg k19]
      have h64 := hok.1
      exact doc_num _ _ _ _ _ _ _ _ _ _ _ _ _ _ w _ _ _ _ rfl rfl rfl hnum _ rfl (dec (by simp only [Bool.and_eq_true, n2, n3]; exact ⟨fun h => ⟨h.1.2, h.2, h64, h.1.1⟩, fun h => ⟨⟨h.2.2.2, h.1⟩, h.2.1⟩⟩))
    have hv1 := hv.more (e := d + 1) (by omega)
    by_cases k15 : f.kind = 15
    · rw [if_pos k15]
      have hne := tab_kid hT (.inl k15)
      have h76 : Ans 76 #[.agg #[.int .i64 15, .int .i64 f.width, .int .i64 f.id, .int .i64 f.index, .slice ao f.kids.length ca], .agg #[.bool false, .int .i64 v.num, .string v.text, .slice vo v.list.length vc]] (decide (v.num = 0 ∧ v.list.length ≤ 4096) && v.list.all (r f.kids.head!)) w := by
        by_cases c : v.num = 0 ∧ v.list.length ≤ 4096
        · rw [decide_eq_true c, Bool.true_and, c.1]
          by_cases e : v.list = []
          · rw [e]
            exact list76_nil15 _ _ _ _ _ _ _ _ _ _ w
          · obtain ⟨kb, ko, rfl, hSb, go, gc, hc, hle, hrow⟩ := kid hne
            obtain ⟨b, o, rfl, hb, hi⟩ := hv1.2 e
            refine list76_15 _ _ _ _ _ kb ko _ _ b o _ _ w (fun k => (v.list.map (r f.kids.head!)).getD k true) _ c.2 (head_get hne).1 (hS kb hSb) (hS b hb) (fun k hk => ?_) (fun h => all_true fun k hk => ?_) (fun k hk h => all_false hk ?_)
            · obtain ⟨uo, uc, h1, h2, h3, h4⟩ := hi k hk
              refine ⟨_, go, gc, _, uo, uc, hc, h1, ?_⟩
              have := hkid _ _ _ (hmem hne) hle hrow _ uo uc h3 h4
              rw [show (v.list.map (r f.kids.head!)).getD k true = r f.kids.head! v.list[k] by rw [List.getD_eq_getElem?_getD, List.getElem?_map, List.getElem?_eq_getElem hk]; rfl]
              exact this
            · have := h k hk
              rw [List.getD_eq_getElem?_getD, List.getElem?_map, List.getElem?_eq_getElem hk] at this
              exact this
            · rw [List.getD_eq_getElem?_getD, List.getElem?_map, List.getElem?_eq_getElem hk] at h
              exact h
        · rw [decide_eq_false c, Bool.false_and]
          refine list76_no15 _ _ _ _ _ _ _ _ _ _ _ _ w _ rfl _ rfl ?_
          by_cases c1 : v.num = 0
          · have : (4096 : Int) < (v.list.length : Int) := by have : ¬ v.list.length ≤ 4096 := fun h => c ⟨c1, h⟩; omega
            simp [this]
          · simp [c1]
      rw [k15]
      refine doc_list _ _ _ _ _ _ _ _ _ _ _ _ _ _ w _ _ (by omega) _ rfl h76 ?_
      rw [Bool.eq_iff_iff]
      simp only [Bool.and_eq_true, decide_eq_true_iff, n2]
      exact ⟨fun h => ⟨h.1.2.1, ⟨h.1.1, h.1.2.2⟩, h.2⟩, fun h => ⟨⟨h.2.1.1, h.1, h.2.1.2⟩, h.2.2⟩⟩
    rw [if_neg k15]
    by_cases k16 : f.kind = 16
    · rw [if_pos k16]
      have hne := tab_kid hT (.inr (.inl k16))
      have hw16 := h16 k16
      have h76 : Ans 76 #[.agg #[.int .i64 16, .int .i64 f.width, .int .i64 f.id, .int .i64 f.index, .slice ao f.kids.length ca], .agg #[.bool false, .int .i64 v.num, .string v.text, .slice vo v.list.length vc]] (decide (v.num = 0 ∧ (v.list.length : Int) = f.width) && v.list.all (r f.kids.head!)) w := by
        by_cases c : v.num = 0 ∧ (v.list.length : Int) = f.width
        · rw [decide_eq_true c, Bool.true_and, c.1, ← c.2]
          have e : v.list ≠ [] := fun e => by
            have := c.2
            rw [e] at this
            simp at this
            omega
          obtain ⟨kb, ko, rfl, hSb, go, gc, hc, hle, hrow⟩ := kid hne
          obtain ⟨b, o, rfl, hb, hi⟩ := hv1.2 e
          refine list76_16 0 _ _ _ _ kb ko _ _ b o _ _ w (fun k => (v.list.map (r f.kids.head!)).getD k true) _ hvl (head_get hne).1 (hS kb hSb) (hS b hb) (fun k hk => ?_) (fun h => all_true fun k hk => ?_) (fun k hk h => all_false hk ?_)
          · obtain ⟨uo, uc, h1, h2, h3, h4⟩ := hi k hk
            refine ⟨_, go, gc, _, uo, uc, hc, h1, ?_⟩
            have := hkid _ _ _ (hmem hne) hle hrow _ uo uc h3 h4
            rw [show (v.list.map (r f.kids.head!)).getD k true = r f.kids.head! v.list[k] by rw [List.getD_eq_getElem?_getD, List.getElem?_map, List.getElem?_eq_getElem hk]; rfl]
            exact this
          · have := h k hk
            rw [List.getD_eq_getElem?_getD, List.getElem?_map, List.getElem?_eq_getElem hk] at this
            exact this
          · rw [List.getD_eq_getElem?_getD, List.getElem?_map, List.getElem?_eq_getElem hk] at h
            exact h
        · rw [decide_eq_false c, Bool.false_and]
          refine list76_no16 _ _ _ _ _ _ _ _ _ _ _ _ w _ rfl (!((v.list.length : Int) == f.width)) (by simp) ?_
          by_cases c1 : v.num = 0
          · have : ¬ (v.list.length : Int) = f.width := fun h => c ⟨c1, h⟩
            simp [this]
          · simp [c1]
      rw [k16]
      refine doc_list _ _ _ _ _ _ _ _ _ _ _ _ _ _ w _ _ (by omega) _ rfl h76 ?_
      rw [Bool.eq_iff_iff]
      simp only [Bool.and_eq_true, decide_eq_true_iff, n2]
      exact ⟨fun h => ⟨h.1.2.1, ⟨h.1.1, h.1.2.2.1⟩, h.2⟩, fun h => ⟨⟨h.2.1.1, h.1, h.2.1.2, by have := h.2.1.2; omega⟩, h.2.2⟩⟩
    rw [if_neg k16]
    by_cases k17 : f.kind = 17
    · rw [if_pos k17]
      have h76 : Ans 76 #[.agg #[.int .i64 17, .int .i64 f.width, .int .i64 f.id, .int .i64 f.index, .slice ao f.kids.length ca], .agg #[.bool false, .int .i64 v.num, .string v.text, .slice vo v.list.length vc]] (decide (v.num = 0 ∧ v.list.length = f.kids.length) && allP2 r f.kids v.list) w := by
        by_cases c : v.num = 0 ∧ v.list.length = f.kids.length
        · rw [decide_eq_true c, Bool.true_and, c.1]
          by_cases e : v.list = []
          · have e2 : f.kids = [] := List.eq_nil_of_length_eq_zero (by rw [← c.2, e]; rfl)
            rw [e, e2]
            exact list76_nil17 _ _ _ _ _ _ _ _ _ w
          · have hne : f.kids ≠ [] := fun e2 => e (List.eq_nil_of_length_eq_zero (by rw [c.2, e2]; rfl))
            obtain ⟨kb, ko, rfl, hSb, hki⟩ := hf.2 hne
            obtain ⟨b, o, rfl, hb, hi⟩ := hv1.2 e
            rw [← c.2]
            refine list76_17 _ _ _ _ kb ko _ _ b o _ _ w (fun k => ((f.kids.zip v.list).map fun q => r q.1 q.2).getD k true) _ hvl (hS kb hSb) (hS b hb) (fun k hk => ?_) (fun h => allP2_true c.2 fun k hkf hk => ?_) (fun k hk h => allP2_false (k := k) (by omega) hk ?_)
            · have hkf : k < f.kids.length := by omega
              obtain ⟨uo, uc, h1, h2, h3, h4⟩ := hi k hk
              obtain ⟨go, gc, hc, hle, hrow⟩ := hki k hkf
              refine ⟨_, go, gc, _, uo, uc, hc, h1, ?_⟩
              have := hkid _ _ _ (List.getElem_mem hkf) hle hrow _ uo uc h3 h4
              rw [zip_get r f.kids v.list k hkf hk]
              exact this
            · have := h k hk
              rw [zip_get r f.kids v.list k hkf hk] at this
              exact this
            · rw [zip_get r f.kids v.list k (by omega) hk] at h
              exact h
        · rw [decide_eq_false c, Bool.false_and]
          refine list76_no17 _ _ _ _ _ _ _ _ _ _ _ _ w _ rfl (!((v.list.length : Int) == (f.kids.length : Int))) (by simp) ?_
          by_cases c1 : v.num = 0
          · have : ¬ (v.list.length : Int) = (f.kids.length : Int) := fun h => c ⟨c1, by omega⟩
            simp [this]
          · simp [c1]
      rw [k17]
      refine doc_list _ _ _ _ _ _ _ _ _ _ _ _ _ _ w _ _ (by omega) _ rfl h76 ?_
      rw [Bool.eq_iff_iff]
      simp only [Bool.and_eq_true, decide_eq_true_iff, n2]
      exact ⟨fun h => ⟨h.1.2.1, ⟨h.1.1, h.1.2.2⟩, h.2⟩, fun h => ⟨⟨h.2.1.1, h.1, h.2.1.2⟩, h.2.2⟩⟩
    rw [if_neg k17]
    by_cases k18 : f.kind = 18
    · rw [if_pos k18]
      have h76 : Ans 76 #[.agg #[.int .i64 18, .int .i64 f.width, .int .i64 f.id, .int .i64 f.index, .slice ao f.kids.length ca], .agg #[.bool false, .int .i64 v.num, .string v.text, .slice vo v.list.length vc]] (decide (0 ≤ v.num ∧ v.num < (f.kids.length : Int) ∧ v.list.length = 1) && r (f.kids.getD v.num.toNat default) v.list.head!) w := by
        by_cases c : 0 ≤ v.num ∧ v.num < (f.kids.length : Int) ∧ v.list.length = 1
        · rw [decide_eq_true c, Bool.true_and]
          obtain ⟨j, hj⟩ : ∃ j : Nat, (j : Int) = v.num := ⟨v.num.toNat, by omega⟩
          have hjl : j < f.kids.length := by omega
          have hfne : f.kids ≠ [] := fun h => by rw [h] at hjl; simp at hjl
          obtain ⟨u, hu⟩ := List.length_eq_one_iff.1 c.2.2
          obtain ⟨kb, ko, rfl, hb, hi⟩ := hf.2 hfne
          obtain ⟨go, gc, hc, hle, hrow⟩ := hi j hjl
          obtain ⟨eb, eo, rfl, heb, hei⟩ := hv1.2 (by rw [hu]; simp)
          obtain ⟨uo, uc, hce, hule, huok, hurow⟩ := hei 0 (by omega)
          have hu0 : v.list[0]'(by omega) = u := by simp [hu]
          rw [hu0] at hce hule huok hurow
          simp only [Nat.zero_mul, Nat.add_zero] at hce
          have hgd : f.kids.getD v.num.toNat default = f.kids[j] := by
            rw [show v.num.toNat = j by omega, List.getD_eq_getElem?_getD, List.getElem?_eq_getElem hjl]
            rfl
          have hhd : v.list.head! = u := by rw [hu]; rfl
          rw [hgd, hhd, ← hj, c.2.2]
          exact choice76_yes _ _ _ _ _ _ j _ _ kb ko eb eo _ _ _ _ _ _ _ _ _ _ _ _ _ _ _ w _ hjl hfl hc.c0 hc.c1 hc.c2 hc.c3 hc.c4 hc.c5 hc.c6 hce.c0 hce.c1 hce.c2 hce.c3 (hkid _ _ _ (List.getElem_mem hjl) hle hrow u uo uc huok hurow)
        · rw [decide_eq_false c, Bool.false_and]
          exact choice76_no _ _ _ _ _ _ _ _ _ _ _ _ w hfl hvl (by omega)
      rw [k18]
      refine doc_list _ _ _ _ _ _ _ _ _ _ _ _ _ _ w _ _ (by omega) _ rfl h76 ?_
      rw [Bool.eq_iff_iff]
      simp only [Bool.and_eq_true, decide_eq_true_iff, n2]
      exact ⟨fun h => ⟨h.1.1, h.1.2, h.2⟩, fun h => ⟨⟨h.1, h.2.1⟩, h.2.2⟩⟩
    rw [if_neg k18, if_neg k19]
    have k1 : f.kind = 1 := by omega
    rw [k1]
    refine doc_list _ _ _ _ _ _ _ _ _ _ _ _ _ _ w _ false (by omega) _ rfl (null76 _ _ _ _ _ _ _ _ _ _ _ _ w) ?_
    rw [Bool.and_false]
    exact decide_eq_false (fun h => by have := h.2.2.2; simp [numB] at this)
/-- all depths -/
theorem doc49_any (S : Nat → Prop) (d : Nat) (w : World) (hS : ∀ b, S b → b < w.heap.size) : ∀ (D : Nat) (f : FT) (ao : Option Addr) (ca : Nat), RowAt S w D ao f.kids → okF (D + 1) f → okN (D + 1) f → ∀ (v : VT) (vo : Option Addr) (vc : Nat), VOk v → VRow S w d vo v.list →
      Ans 49 #[.agg #[.string f.name, .bool f.nul, .int .i64 f.kind, .int .i64 f.width, .int .i64 f.id, .int .i64 f.index, .slice ao f.kids.length ca], .agg #[.bool v.nul, .int .i64 v.num, .string v.text, .slice vo v.list.length vc]] (docF (D + 1) f v) w
  | 0, f, ao, ca, hf, ho, hn, v, vo, vc, hok, hv => by
    have hk : f.kids = [] := hf
    exact doc_step S 0 d w hS f ao ca (docF 0) (hf.more (by omega)) ho.1 (width16 ho.1) (null72_any S w hS 0 f ao ca hf ho hn) (fun g go gc hg => by rw [hk] at hg; cases hg) v vo vc hok hv
  | D + 1, f, ao, ca, hf, ho, hn, v, vo, vc, hok, hv =>
    doc_step S D d w hS f ao ca (docF (D + 1)) hf ho.1 (width16 ho.1) (null72_any S w hS (D + 1) f ao ca hf ho hn) (fun g go gc hg hle hrow u uo uc h1 h2 => doc49_any S d w hS D g go gc hrow (ho.2 g hg) (hn.2 g hg) u uo uc h1 h2) v vo vc hok hv
end Go.Proofs.YtcfdkadhclickaaDoor.Kit
