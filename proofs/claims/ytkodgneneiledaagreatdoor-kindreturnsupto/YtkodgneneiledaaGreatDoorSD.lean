import Derived.Test.YtkodgneneiledaaGreatDoorKC
import Derived.Test.YtkodgneneiledaaGreatDoorMB
import Derived.Test.YtkodgneneiledaaGreatDoorPA
import Derived.Test.YtkodgneneiledaaGreatDoorSA
namespace Go.Proofs.YtkodgneneiledaaGreatDoor.Kit
open Go.RowKit Go.Shelf Go.Deep
set_option linter.unusedVariables false

theorem cell2 {W : World} {B t : Nat} {x y : Value} (h : W.heap[B]? = some (.cells #[x, y] t)) : W.cell? ⟨B, 0, none⟩ = some x ∧ W.cell? ⟨B, 1, none⟩ = some y := by simp [World.cell?, h]
theorem cell5 {W : World} {B t : Nat} {x0 x1 x2 x3 x4 : Value} (h : W.heap[B]? = some (.cells #[x0, x1, x2, x3, x4] t)) : W.cell? ⟨B, 0, none⟩ = some x0 ∧ W.cell? ⟨B, 1, none⟩ = some x1 ∧ W.cell? ⟨B, 2, none⟩ = some x2 ∧ W.cell? ⟨B, 3, none⟩ = some x3 ∧ W.cell? ⟨B, 4, none⟩ = some x4 := by simp [World.cell?, h]
def AnsV (F : Nat) (args : Array Value) (v : Value) (w : World) : Prop := ∀ W, Gr w W → Calls Tryz.prog F args W fun e w' => e = .returned v ∧ Gr W w'
theorem AnsV.gr {F : Nat} {args : Array Value} {v : Value} {w W : World} (h : AnsV F args v w) (g : Gr w W) : AnsV F args v W := fun W' g' => h W' (g.trans g' (fun _ _ h => h))
theorem table_of {f : FT} (h : tableB f = true) : ∃ k : Nat, f.kind = (k : Int) ∧ 1 ≤ k ∧ k ≤ 20 ∧ f.kids.length ≤ 32 ∧ leastK k ≤ (f.kids.length : Int) ∧ (f.kids.length : Int) ≤ mostK k ∧ (k = 19 → ∃ ix : Nat, f.index = (ix : Int) ∧ ix ≤ 10) := by
  simp only [tableB, kindB, Bool.and_eq_true, decide_eq_true_eq] at h
  obtain ⟨⟨h1, h2⟩, ⟨⟨h3, h4⟩, h5⟩, h6⟩ := h
  have hm : ∀ n : Nat, mostK n ≤ 32 := fun n => by unfold mostK; split <;> omega
  refine ⟨f.kind.toNat, by omega, by omega, by omega, by have := hm f.kind.toNat; omega, h3, h4, fun hk => ?_⟩
  have hk19 : f.kind = 19 := by omega
  simp [dictB, hk19, indexB] at h6
  exact ⟨f.index.toNat, by omega, by omega⟩
/-! ### the text of fields and types -/
def decB (n : Nat) : ByteArray := ⟨(Lib.decDigits n).toArray⟩
def wdB (k : Nat) : ByteArray := ⟨(wordK k).toArray⟩
def numsB (f : FT) : List ByteArray :=
  if f.kind = 14 ∨ f.kind = 16 then [decB f.width.toNat] else if f.kind = 19 then [decB f.id.toNat, wdB f.index.toNat] else []
def tyB (f : FT) (ks : List ByteArray) : ByteArray := if f.kind < 14 then wdB f.kind.toNat else brackB f.kind.toNat (numsB f ++ ks)
def fdB (f : FT) (t : ByteArray) : ByteArray := if f.nul then f.name ++ ⟨#[32]⟩ ++ t ++ ⟨#[63]⟩ else f.name ++ ⟨#[32]⟩ ++ t
def txF : Nat → FT → ByteArray
  | 0, f => fdB f (tyB f [])
  | d + 1, f => fdB f (tyB f (f.kids.map (txF d)))
def txK : Nat → FT → List ByteArray
  | 0, _ => []
  | d + 1, f => f.kids.map (txF d)
theorem txF_eq (d : Nat) (f : FT) : txF d f = fdB f (tyB f (txK d f)) := by cases d <;> rfl
def okF (f : FT) : Prop := f.name.size ≤ 48 ∧ tableB f = true
theorem dec_small {n : Nat} (h : n < 100) : (Lib.decDigits n).length ≤ 2 := by
  by_cases h1 : n < 10
  · rw [Lib.decDigits, dif_pos h1]; simp
  · rw [Lib.decDigits, dif_neg h1, Lib.decDigits, dif_pos (by omega)]; simp
theorem wd_small (k : Nat) : (wordK k).length ≤ 7 := by
  unfold wordK; split <;> simp
theorem joinB_size (ts : List ByteArray) : (joinB ts).size ≤ (ts.map fun t => t.size + 2).sum := by
  show (Lib.join (ts.map (·.data.toList)) [44, 32]).length ≤ _
  cases ts with
  | nil => simp [Lib.join, List.intercalate]
  | cons x r =>
    rw [List.map_cons, Lib.join_cons, List.length_append, Lib.joinTail_length]
    have e : ∀ r : List ByteArray, Lib.lens (r.map (·.data.toList)) + 2 * r.length = (r.map fun t => t.size + 2).sum := fun r => by
      induction r with
      | nil => rfl
      | cons y r ih =>
        simp only [Lib.lens, List.map_cons, List.sum_cons, List.length_cons] at ih ⊢
        have : y.data.toList.length = y.size := Array.length_toList
        omega
    have := e r
    have hx : x.data.toList.length = x.size := Array.length_toList
    simp only [List.map_cons, List.sum_cons, List.length_map, List.length_cons, List.length_nil]
    omega
theorem tableB_nums {f : FT} (h : tableB f = true) : 0 < f.kind ∧ f.kind < 21 ∧ (f.kind = 14 ∨ f.kind = 16 → 0 ≤ f.width ∧ f.width < 100) ∧ (f.kind = 19 → 0 ≤ f.id ∧ f.id < 32 ∧ 3 ≤ f.index ∧ f.index ≤ 10) ∧ (f.kind < 14 → f.kids.length = 0) ∧ (f.kind = 14 → f.kids.length = 0) := by
  unfold tableB kindB widthB dictB indexB at h
  simp only [Bool.and_eq_true, decide_eq_true_eq] at h
  obtain ⟨⟨h1, h2⟩, ⟨⟨h3, h4⟩, h5⟩, h6⟩ := h
  refine ⟨h1, h2, ?_, ?_, ?_, ?_⟩
  · rintro (e | e) <;> simp [e] at h5 <;> omega
  · intro e
    simp [e] at h6
    omega
  · intro e
    have : mostK f.kind.toNat = 0 := by
      obtain ⟨k, hk⟩ : ∃ k : Nat, f.kind = (k : Int) := ⟨f.kind.toNat, by omega⟩
      rw [hk] at e h1 ⊢
      have : k < 14 := by omega
      simp only [Int.toNat_natCast]
      unfold mostK
      split <;> first | omega | rfl
    omega
  · intro e
    simp [e, mostK] at h4
    simp [h4]
theorem nums_size {f : FT} (h : tableB f = true) : ((numsB f).map fun t => t.size + 2).sum ≤ 20 := by
  obtain ⟨h1, h2, h3, h4, -⟩ := tableB_nums h
  unfold numsB
  split
  · rename_i e
    have := dec_small (n := f.width.toNat) (by have := h3 e; omega)
    have hd : (decB f.width.toNat).size = (Lib.decDigits f.width.toNat).length := rfl
    simp
    omega
  · split
    · rename_i e
      have := dec_small (n := f.id.toNat) (by have := h4 e; omega)
      have hd : (decB f.id.toNat).size = (Lib.decDigits f.id.toNat).length := rfl
      have := wd_small f.index.toNat
      have hw : (wdB f.index.toNat).size = (wordK f.index.toNat).length := rfl
      simp
      omega
    · simp
theorem tyB_size {f : FT} (h : tableB f = true) (ks : List ByteArray) : (tyB f ks).size ≤ 40 + (ks.map fun t => t.size + 2).sum := by
  have hw := wd_small f.kind.toNat
  unfold tyB
  split
  · show (wordK f.kind.toNat).length ≤ _
    omega
  · unfold brackB
    rw [ByteArray.size_append, ByteArray.size_append, ByteArray.size_append]
    have hj := joinB_size (numsB f ++ ks)
    rw [List.map_append, List.sum_append] at hj
    have hn := nums_size h
    have e1 : (⟨(wordK f.kind.toNat).toArray⟩ : ByteArray).size = (wordK f.kind.toNat).length := rfl
    have e2 : (⟨#[40]⟩ : ByteArray).size = 1 := rfl
    have e3 : (⟨#[41]⟩ : ByteArray).size = 1 := rfl
    omega
theorem fdB_size (f : FT) (t : ByteArray) : (fdB f t).size ≤ f.name.size + t.size + 2 := by
  have e2 : (⟨#[32]⟩ : ByteArray).size = 1 := rfl
  have e3 : (⟨#[63]⟩ : ByteArray).size = 1 := rfl
  unfold fdB
  split
  · rw [ByteArray.size_append, ByteArray.size_append, ByteArray.size_append]; omega
  · rw [ByteArray.size_append, ByteArray.size_append]; omega
theorem tx_size : ∀ (d : Nat) (f : FT), okF f → (∀ g ∈ pre d f.kids, okF g) → (txF d f).size + 2 ≤ 200 * (1 + (pre d f.kids).length)
  | 0, f, h, _ => by
    have h1 := fdB_size f (tyB f [])
    have h2 := tyB_size h.2 []
    have := h.1
    show (fdB f (tyB f [])).size + 2 ≤ _
    simp only [List.map_nil, List.sum_nil] at h2
    omega
  | d + 1, f, h, hk => by
    have h1 := fdB_size f (tyB f (f.kids.map (txF d)))
    have h2 := tyB_size h.2 (f.kids.map (txF d))
    have := h.1
    have key : ∀ l : List FT, (∀ g ∈ pre (d + 1) l, okF g) → ((l.map (txF d)).map fun t => t.size + 2).sum ≤ 200 * (pre (d + 1) l).length := fun l => by
      induction l with
      | nil => intro _; simp
      | cons g l ih =>
        intro hl
        have e : pre (d + 1) (g :: l) = (g :: pre d g.kids) ++ pre (d + 1) l := rfl
        rw [e] at hl ⊢
        have i1 := ih fun x hx => hl x (List.mem_append_right _ hx)
        have i2 := tx_size d g (hl g (by simp)) fun x hx => hl x (by simp [hx])
        simp only [List.map_cons, List.sum_cons, List.length_append, List.length_cons]
        omega
    have := key f.kids hk
    show (fdB f (tyB f (f.kids.map (txF d)))).size + 2 ≤ _
    omega
theorem tx_sum {d : Nat} {l : List FT} (h : ∀ g ∈ pre (d + 1) l, okF g) : ((l.map (txF d)).map fun t => t.size + 2).sum ≤ 200 * (pre (d + 1) l).length := by
  induction l with
  | nil => simp
  | cons g l ih =>
    have e : pre (d + 1) (g :: l) = (g :: pre d g.kids) ++ pre (d + 1) l := rfl
    rw [e] at h ⊢
    have i1 := ih fun x hx => h x (List.mem_append_right _ hx)
    have i2 := tx_size d g (h g (by simp)) fun x hx => h x (by simp [hx])
    simp only [List.map_cons, List.sum_cons, List.length_append, List.length_cons]
    omega
theorem allr_nd {N : List LS} (h : AllR N) {k : Nat} (hk : k < N.length) : nameB N[k].fld.name = true ∧ tableB N[k].fld = true ∧ nullB N[k].fld = true := by
  have := h k hk
  unfold wrongE wr at this
  split at this
  · omega
  split at this
  · omega
  split at this
  · omega
  split at this
  · omega
  split at this
  · omega
  split at this
  · omega
  rename_i a3 a4 a5 a6
  exact ⟨by simpa using a3, by simpa using a5, by simpa using a6⟩
theorem allr_ok {D : Nat} {l : List FT} {p : List Nat} {q : Bool} (h : AllR (nodes D l p q)) : (∀ g ∈ pre D l, okF g) ∧ (pre D l).length ≤ 256 := by
  rw [← nodes_pre D l p q]
  refine ⟨fun g hg => ?_, by rw [List.length_map]; exact h.len⟩
  obtain ⟨s, hs, rfl⟩ := List.mem_map.1 hg
  obtain ⟨k, hk, rfl⟩ := List.mem_iff_getElem.1 hs
  obtain ⟨h1, h2, -⟩ := allr_nd h hk
  refine ⟨?_, h2⟩
  unfold nameB at h1
  simp only [Bool.and_eq_true, decide_eq_true_eq] at h1
  exact h1.1.1.2
end Go.Proofs.YtkodgneneiledaaGreatDoor.Kit
namespace Go.Proofs.YtkodgneneiledaaGreatDoor.Kit
open Go.RowKit Go.Shelf Go.Deep
set_option linter.unusedVariables false
attribute [local go_sem] run_store_func

theorem Strs.app {w W W2 : World} {vo vo' : Option Addr} {vc vc' m : Nat} {ts us : List ByteArray} (h : Strs w W vo vc ts) (hm : m = ts.length + us.length)
    (ho : W2.ownsRow 0 9 1 (.slice vo' m vc') m (ts.map Value.string ++ us.map Value.string)) (hg : W.grownBy W2 (Value.slice vo ts.length vc).ownBlock)
    (hor : (Value.slice vo' m vc').ownBlock = (Value.slice vo ts.length vc).ownBlock ∨ ∀ g, (Value.slice vo' m vc').ownBlock = some g → W.heap.size ≤ g) : Strs w W2 vo' vc' (ts ++ us) := by
  have e : (ts ++ us).length = m := by simp [hm]
  refine ⟨?_, h.gr.trans (Keeps.ofGrown hg) (fun j hj e => by have := h.new j e; omega), fun g hg' => ?_⟩
  · rw [e, List.map_append]; exact ho
  · rw [e] at hg'
    rcases hor with h1 | h1
    · rw [h1] at hg'; exact h.new g hg'
    · exact Nat.le_trans h.gr.size (h1 g hg')
theorem Strs.nil (w W : World) (g : Gr w W) : Strs w W none 0 [] := ⟨World.ownsRow_nil _ _ _ _, g, fun g e => by simp [Value.ownBlock] at e⟩
theorem src_str2 (w : World) (u v : ByteArray) : Src Tryz.prog 1 22 (.slice (some ⟨w.heap.size, 0, none⟩) 2 2) 2 [.string u, .string v] (w.alloc (.cells #[.string u, .string v] 9)) := by
  refine Src.ofSlice (w := w.alloc (.cells #[.string u, .string v] 9)) Tryz.underlying22 ⟨w.heap.size, 0, none⟩ 2 2 [.string u, .string v] rfl (fun j x h => ?_) (fun x h => by simp at h; rcases h with rfl | rfl <;> rfl)
  have hb := World.alloc_heap_new w (.cells #[.string u, .string v] 9)
  obtain ⟨c0, c1⟩ := cell2 hb
  match j, h with
  | 0, h => cases h; exact c0
  | 1, h => cases h; exact c1
  | j + 2, h => simp at h

set_option maxRecDepth 100000 in
set_option maxHeartbeats 2000000 in
theorem typeText_num14 (n : Nat) (hn : n < 100) (f4 f5 : Int) (ao : Option Addr) (f6 ca : Nat) (ts : List ByteArray) (hts : ts.length ≤ 1000000) (hj : (joinB ([decB n] ++ ts)).size ≤ 1000000000000) (w : World) (hT : Tab w)
    (h : ∀ W, Gr w W → Calls Tryz.prog 40 #[.slice ao f6 ca] W fun e w' => ∃ vo vc, e = .returned (.slice vo ts.length vc) ∧ Strs W w' vo vc ts) :
    ∀ W, Gr w W → Calls Tryz.prog 74 #[.agg #[.int .i64 (14 : Int), .int .i64 (n : Int), .int .i64 f4, .int .i64 f5, .slice ao f6 ca]] W fun e w' => e = .returned (.string (brackB 14 ([decB n] ++ ts))) ∧ Gr W w' := by
  intro W g
  have H : Hid (∀ W', Gr W W' → Calls Tryz.prog 40 #[.slice ao f6 ca] W' fun e w' => ∃ vo vc, e = .returned (.slice vo ts.length vc) ∧ Strs W' w' vo vc ts) := fun W' g' => h W' (g.trans g' (fun _ _ h => h))
  have hk21 : 14 < 21 := by omega
  have hr := (hT.gr g).2 14 hk21
  have b0 : ∀ o, (W.alloc o).cell? ⟨0, 70, none⟩ = some (.string ⟨(wordK 14).toArray⟩) := fun o => (gr_alloc W o).cell' hr.c0 (fun h => h)
  have hwl : (wordK 14).length ≤ 10 := by have := wd_small 14; omega
  have HJ : Hid (∀ W1 vo vc m, m = ([decB n] ++ ts).length → Strs W W1 vo vc ([decB n] ++ ts) → Calls Tryz.prog 39 #[.slice vo m vc, .string ⟨#[44, 32]⟩] W1 fun e w' => e = .returned (.string (joinB ([decB n] ++ ts))) ∧ Gr W1 w') := fun W1 vo vc m hm hs => by
    subst hm
    refine join_any vo vc ([decB n] ++ ts) ⟨#[44, 32]⟩ W W1 hs (by simp; omega) ?_
    have : (joinB ([decB n] ++ ts)).size = (Lib.join (([decB n] ++ ts).map (·.data.toList)) [44, 32]).length := rfl
    show (Lib.join (([decB n] ++ ts).map (·.data.toList)) [44, 32]).length ≤ _
    omega
  have hb := fun w => isBracketed_any (14 : Int) w
  rw [show decide ((14 : Int) ≤ (14 : Int)) = true from decide_eq_true (by omega)] at hb
  have HIt : Hid (∀ w, Calls Tryz.prog 107 #[.int .i64 (n : Int)] w fun e w' => e = .returned (.string (decB n)) ∧ w' = w) := fun w => Tryz.strconv_Itoa_small n hn w
  unfold brackB
  have hws : (⟨(wordK 14).toArray⟩ : ByteArray).size = (wordK 14).length := rfl
  obtain ⟨wd, hwd⟩ : ∃ wd : ByteArray, wd = ⟨(wordK 14).toArray⟩ := ⟨_, rfl⟩
  rw [← hwd] at hws b0 ⊢
  generalize joinB ([decB n] ++ ts) = jt at *
  have s1 : (wd ++ (⟨#[40]⟩ : ByteArray)).size = wd.size + 1 := by rw [ByteArray.size_append]; rfl
  have s2 : (wd ++ (⟨#[40]⟩ : ByteArray) ++ jt).size = wd.size + 1 + jt.size := by rw [ByteArray.size_append, s1]
  have m1 := fun w => run_string_add_sum (P := Tryz.prog) w wd ⟨#[40]⟩ (by show wd.size + 1 ≤ _; omega)
  have m2 := fun w => run_string_add_sum (P := Tryz.prog) w (wd ++ ⟨#[40]⟩) jt (by rw [s1]; omega)
  have m3 := fun w => run_string_add_sum (P := Tryz.prog) w (wd ++ ⟨#[40]⟩ ++ jt) ⟨#[41]⟩ (by rw [s2]; show _ + 1 ≤ _; omega)
  clear hr hT g h hwl hws s1 s2 hwd hn
  go_enter Tryz.func74, Tryz.ntmps74
  go_wp2_with (first | (go_at_call 90; refine (hb _).mono ?_; rintro e w' ⟨rfl, rfl⟩) | (go_at_call 107; refine (HIt.out _).mono ?_; rintro e w' ⟨rfl, rfl⟩) | (at_builtin; refine Hid.out ?_))
  unfold Hid
  have hS0 := Strs.nil W _ ((gr_alloc W (.cells #[.int .i64 (14 : Int), .int .i64 (n : Int), .int .i64 f4, .int .i64 f5, .slice ao f6 ca] 35)).alloc (.cells #[.string (decB n)] 9))
  refine wpList_append_any _ rfl (.tmp 20) (.tmp 24) 22 22 rfl 9 (.string ⟨#[]⟩) 16 Tryz.underlying22 info9 rfl _ 0 [] rfl (World.ownsRow_nil _ _ _ _) (.slice (some ⟨W.heap.size + 1, 0, none⟩) 1 1) 1 [.string (decB n)] rfl (by have := src_str (W.alloc (.cells #[.int .i64 (14 : Int), .int .i64 (n : Int), .int .i64 f4, .int .i64 f5, .slice ao f6 ca] 35)) (decB n); rwa [World.size_alloc] at this) (by omega) (by omega) ?_
  intro v' w1 hown' hgrow hblk
  obtain ⟨vo1, vc1, rfl⟩ := own_form hown'
  have HS1 : Hid (Strs W w1 vo1 vc1 [decB n]) := hS0.app (us := [decB n]) rfl hown' hgrow hblk
  have hgg : Gr _ w1 := (Keeps.ofGrown hgrow).mono (T := fun _ => False) fun b _ e => by have e' : (Value.slice none 0 0).ownBlock = some b := e; simp [Value.ownBlock] at e'
  have y4 : w1.cell? ⟨W.heap.size, 4, none⟩ = some (.slice ao f6 ca) := hgg.cell' ((gr_alloc _ _).cell' (cell5 (World.alloc_heap_new W (.cells #[.int .i64 (14 : Int), .int .i64 (n : Int), .int .i64 f4, .int .i64 f5, .slice ao f6 ca] 35))).2.2.2.2 id) id
  clear hown' hgrow hblk hS0 hgg
  go_wp2_with (go_at_call 40; refine Hid.out ?_)
  unfold Hid
  refine Calls.mono (H.out _ HS1.out.gr) ?_
  rintro e W1 ⟨vo, vc, rfl, hs⟩
  have HS := hidM hs
  have HS1' := hidM (HS1.out.gr' hs.gr)
  clear hs
  go_wp2_with (at_builtin; refine Hid.out ?_)
  unfold Hid
  refine wpList_append_any _ rfl (.tmp 39) (.tmp 42) 22 22 rfl 9 (.string ⟨#[]⟩) 16 Tryz.underlying22 info9 rfl _ 1 ([decB n].map Value.string) rfl HS1'.out.own _ ts.length (ts.map Value.string) rfl (src_strs HS.out) (by omega) (by omega) ?_
  intro v'' w3 hown2 hgrow2 hblk2
  obtain ⟨vo2, vc2, rfl⟩ := own_form hown2
  have HS2 : Hid (Strs W w3 vo2 vc2 ([decB n] ++ ts)) := HS1'.out.app (by simp) hown2 hgrow2 hblk2
  clear hown2 hgrow2 hblk2 HS HS1 HS1'
  go_wp2_with (go_at_call 39; refine Hid.out ?_)
  unfold Hid
  refine Calls.mono (HJ.out _ _ _ _ (by simp; try omega) HS2.out) ?_
  rintro e W3 ⟨rfl, hg3⟩
  have HE := hidM (HS2.out.gr.trans hg3 (fun _ _ h => h))
  clear hg3
  go_wp2_with fail
  go_ret
  exact ⟨rfl, HE.out⟩

set_option maxRecDepth 100000 in
set_option maxHeartbeats 2000000 in
theorem typeText_num16 (n : Nat) (hn : n < 100) (f4 f5 : Int) (ao : Option Addr) (f6 ca : Nat) (ts : List ByteArray) (hts : ts.length ≤ 1000000) (hj : (joinB ([decB n] ++ ts)).size ≤ 1000000000000) (w : World) (hT : Tab w)
    (h : ∀ W, Gr w W → Calls Tryz.prog 40 #[.slice ao f6 ca] W fun e w' => ∃ vo vc, e = .returned (.slice vo ts.length vc) ∧ Strs W w' vo vc ts) :
    ∀ W, Gr w W → Calls Tryz.prog 74 #[.agg #[.int .i64 (16 : Int), .int .i64 (n : Int), .int .i64 f4, .int .i64 f5, .slice ao f6 ca]] W fun e w' => e = .returned (.string (brackB 16 ([decB n] ++ ts))) ∧ Gr W w' := by
  intro W g
  have H : Hid (∀ W', Gr W W' → Calls Tryz.prog 40 #[.slice ao f6 ca] W' fun e w' => ∃ vo vc, e = .returned (.slice vo ts.length vc) ∧ Strs W' w' vo vc ts) := fun W' g' => h W' (g.trans g' (fun _ _ h => h))
  have hk21 : 16 < 21 := by omega
  have hr := (hT.gr g).2 16 hk21
  have b0 : ∀ o, (W.alloc o).cell? ⟨0, 80, none⟩ = some (.string ⟨(wordK 16).toArray⟩) := fun o => (gr_alloc W o).cell' hr.c0 (fun h => h)
  have hwl : (wordK 16).length ≤ 10 := by have := wd_small 16; omega
  have HJ : Hid (∀ W1 vo vc m, m = ([decB n] ++ ts).length → Strs W W1 vo vc ([decB n] ++ ts) → Calls Tryz.prog 39 #[.slice vo m vc, .string ⟨#[44, 32]⟩] W1 fun e w' => e = .returned (.string (joinB ([decB n] ++ ts))) ∧ Gr W1 w') := fun W1 vo vc m hm hs => by
    subst hm
    refine join_any vo vc ([decB n] ++ ts) ⟨#[44, 32]⟩ W W1 hs (by simp; omega) ?_
    have : (joinB ([decB n] ++ ts)).size = (Lib.join (([decB n] ++ ts).map (·.data.toList)) [44, 32]).length := rfl
    show (Lib.join (([decB n] ++ ts).map (·.data.toList)) [44, 32]).length ≤ _
    omega
  have hb := fun w => isBracketed_any (16 : Int) w
  rw [show decide ((14 : Int) ≤ (16 : Int)) = true from decide_eq_true (by omega)] at hb
  have HIt : Hid (∀ w, Calls Tryz.prog 107 #[.int .i64 (n : Int)] w fun e w' => e = .returned (.string (decB n)) ∧ w' = w) := fun w => Tryz.strconv_Itoa_small n hn w
  unfold brackB
  have hws : (⟨(wordK 16).toArray⟩ : ByteArray).size = (wordK 16).length := rfl
  obtain ⟨wd, hwd⟩ : ∃ wd : ByteArray, wd = ⟨(wordK 16).toArray⟩ := ⟨_, rfl⟩
  rw [← hwd] at hws b0 ⊢
  generalize joinB ([decB n] ++ ts) = jt at *
  have s1 : (wd ++ (⟨#[40]⟩ : ByteArray)).size = wd.size + 1 := by rw [ByteArray.size_append]; rfl
  have s2 : (wd ++ (⟨#[40]⟩ : ByteArray) ++ jt).size = wd.size + 1 + jt.size := by rw [ByteArray.size_append, s1]
  have m1 := fun w => run_string_add_sum (P := Tryz.prog) w wd ⟨#[40]⟩ (by show wd.size + 1 ≤ _; omega)
  have m2 := fun w => run_string_add_sum (P := Tryz.prog) w (wd ++ ⟨#[40]⟩) jt (by rw [s1]; omega)
  have m3 := fun w => run_string_add_sum (P := Tryz.prog) w (wd ++ ⟨#[40]⟩ ++ jt) ⟨#[41]⟩ (by rw [s2]; show _ + 1 ≤ _; omega)
  clear hr hT g h hwl hws s1 s2 hwd hn
  go_enter Tryz.func74, Tryz.ntmps74
  go_wp2_with (first | (go_at_call 90; refine (hb _).mono ?_; rintro e w' ⟨rfl, rfl⟩) | (go_at_call 107; refine (HIt.out _).mono ?_; rintro e w' ⟨rfl, rfl⟩) | (at_builtin; refine Hid.out ?_))
  unfold Hid
  have hS0 := Strs.nil W _ ((gr_alloc W (.cells #[.int .i64 (16 : Int), .int .i64 (n : Int), .int .i64 f4, .int .i64 f5, .slice ao f6 ca] 35)).alloc (.cells #[.string (decB n)] 9))
  refine wpList_append_any _ rfl (.tmp 20) (.tmp 24) 22 22 rfl 9 (.string ⟨#[]⟩) 16 Tryz.underlying22 info9 rfl _ 0 [] rfl (World.ownsRow_nil _ _ _ _) (.slice (some ⟨W.heap.size + 1, 0, none⟩) 1 1) 1 [.string (decB n)] rfl (by have := src_str (W.alloc (.cells #[.int .i64 (16 : Int), .int .i64 (n : Int), .int .i64 f4, .int .i64 f5, .slice ao f6 ca] 35)) (decB n); rwa [World.size_alloc] at this) (by omega) (by omega) ?_
  intro v' w1 hown' hgrow hblk
  obtain ⟨vo1, vc1, rfl⟩ := own_form hown'
  have HS1 : Hid (Strs W w1 vo1 vc1 [decB n]) := hS0.app (us := [decB n]) rfl hown' hgrow hblk
  have hgg : Gr _ w1 := (Keeps.ofGrown hgrow).mono (T := fun _ => False) fun b _ e => by have e' : (Value.slice none 0 0).ownBlock = some b := e; simp [Value.ownBlock] at e'
  have y4 : w1.cell? ⟨W.heap.size, 4, none⟩ = some (.slice ao f6 ca) := hgg.cell' ((gr_alloc _ _).cell' (cell5 (World.alloc_heap_new W (.cells #[.int .i64 (16 : Int), .int .i64 (n : Int), .int .i64 f4, .int .i64 f5, .slice ao f6 ca] 35))).2.2.2.2 id) id
  clear hown' hgrow hblk hS0 hgg
  go_wp2_with (go_at_call 40; refine Hid.out ?_)
  unfold Hid
  refine Calls.mono (H.out _ HS1.out.gr) ?_
  rintro e W1 ⟨vo, vc, rfl, hs⟩
  have HS := hidM hs
  have HS1' := hidM (HS1.out.gr' hs.gr)
  clear hs
  go_wp2_with (at_builtin; refine Hid.out ?_)
  unfold Hid
  refine wpList_append_any _ rfl (.tmp 39) (.tmp 42) 22 22 rfl 9 (.string ⟨#[]⟩) 16 Tryz.underlying22 info9 rfl _ 1 ([decB n].map Value.string) rfl HS1'.out.own _ ts.length (ts.map Value.string) rfl (src_strs HS.out) (by omega) (by omega) ?_
  intro v'' w3 hown2 hgrow2 hblk2
  obtain ⟨vo2, vc2, rfl⟩ := own_form hown2
  have HS2 : Hid (Strs W w3 vo2 vc2 ([decB n] ++ ts)) := HS1'.out.app (by simp) hown2 hgrow2 hblk2
  clear hown2 hgrow2 hblk2 HS HS1 HS1'
  go_wp2_with (go_at_call 39; refine Hid.out ?_)
  unfold Hid
  refine Calls.mono (HJ.out _ _ _ _ (by simp; try omega) HS2.out) ?_
  rintro e W3 ⟨rfl, hg3⟩
  have HE := hidM (HS2.out.gr.trans hg3 (fun _ _ h => h))
  clear hg3
  go_wp2_with fail
  go_ret
  exact ⟨rfl, HE.out⟩

set_option maxRecDepth 100000 in
set_option maxHeartbeats 2000000 in
theorem typeText_dict (n ix : Nat) (hn : n < 100) (hix : ix < 21) (f3 : Int) (ao : Option Addr) (f6 ca : Nat) (ts : List ByteArray) (hts : ts.length ≤ 1000000) (hj : (joinB ([decB n, wdB ix] ++ ts)).size ≤ 1000000000000) (w : World) (hT : Tab w)
    (h : ∀ W, Gr w W → Calls Tryz.prog 40 #[.slice ao f6 ca] W fun e w' => ∃ vo vc, e = .returned (.slice vo ts.length vc) ∧ Strs W w' vo vc ts) :
    ∀ W, Gr w W → Calls Tryz.prog 74 #[.agg #[.int .i64 (19 : Int), .int .i64 f3, .int .i64 (n : Int), .int .i64 (ix : Int), .slice ao f6 ca]] W fun e w' => e = .returned (.string (brackB 19 ([decB n, wdB ix] ++ ts))) ∧ Gr W w' := by
  intro W g
  have H : Hid (∀ W', Gr W W' → Calls Tryz.prog 40 #[.slice ao f6 ca] W' fun e w' => ∃ vo vc, e = .returned (.slice vo ts.length vc) ∧ Strs W' w' vo vc ts) := fun W' g' => h W' (g.trans g' (fun _ _ h => h))
  have hk21 : 19 < 21 := by omega
  have hr := (hT.gr g).2 19 hk21
  have b0 : ∀ o, (W.alloc o).cell? ⟨0, 95, none⟩ = some (.string ⟨(wordK 19).toArray⟩) := fun o => (gr_alloc W o).cell' hr.c0 (fun h => h)
  have hwl : (wordK 19).length ≤ 10 := by have := wd_small 19; omega
  have HJ : Hid (∀ W1 vo vc m, m = ([decB n, wdB ix] ++ ts).length → Strs W W1 vo vc ([decB n, wdB ix] ++ ts) → Calls Tryz.prog 39 #[.slice vo m vc, .string ⟨#[44, 32]⟩] W1 fun e w' => e = .returned (.string (joinB ([decB n, wdB ix] ++ ts))) ∧ Gr W1 w') := fun W1 vo vc m hm hs => by
    subst hm
    refine join_any vo vc ([decB n, wdB ix] ++ ts) ⟨#[44, 32]⟩ W W1 hs (by simp; omega) ?_
    have : (joinB ([decB n, wdB ix] ++ ts)).size = (Lib.join (([decB n, wdB ix] ++ ts).map (·.data.toList)) [44, 32]).length := rfl
    show (Lib.join (([decB n, wdB ix] ++ ts).map (·.data.toList)) [44, 32]).length ≤ _
    omega
  have hb := fun w => isBracketed_any (19 : Int) w
  rw [show decide ((14 : Int) ≤ (19 : Int)) = true from decide_eq_true (by omega)] at hb
  have HIt : Hid (∀ w, Calls Tryz.prog 107 #[.int .i64 (n : Int)] w fun e w' => e = .returned (.string (decB n)) ∧ w' = w) := fun w => Tryz.strconv_Itoa_small n hn w
  have hri := ((hT.gr g).2 ix hix).c0
  unfold brackB
  have hws : (⟨(wordK 19).toArray⟩ : ByteArray).size = (wordK 19).length := rfl
  obtain ⟨wd, hwd⟩ : ∃ wd : ByteArray, wd = ⟨(wordK 19).toArray⟩ := ⟨_, rfl⟩
  rw [← hwd] at hws b0 ⊢
  generalize joinB ([decB n, wdB ix] ++ ts) = jt at *
  have s1 : (wd ++ (⟨#[40]⟩ : ByteArray)).size = wd.size + 1 := by rw [ByteArray.size_append]; rfl
  have s2 : (wd ++ (⟨#[40]⟩ : ByteArray) ++ jt).size = wd.size + 1 + jt.size := by rw [ByteArray.size_append, s1]
  have m1 := fun w => run_string_add_sum (P := Tryz.prog) w wd ⟨#[40]⟩ (by show wd.size + 1 ≤ _; omega)
  have m2 := fun w => run_string_add_sum (P := Tryz.prog) w (wd ++ ⟨#[40]⟩) jt (by rw [s1]; omega)
  have m3 := fun w => run_string_add_sum (P := Tryz.prog) w (wd ++ ⟨#[40]⟩ ++ jt) ⟨#[41]⟩ (by rw [s2]; show _ + 1 ≤ _; omega)
  have x1 := World.alloc_heap_new W (.cells #[.int .i64 19, .int .i64 f3, .int .i64 (n : Int), .int .i64 (ix : Int), .slice ao f6 ca] 35)
  have hg0 := gr_alloc W (.cells #[.int .i64 19, .int .i64 f3, .int .i64 (n : Int), .int .i64 (ix : Int), .slice ao f6 ca] 35)
  clear hr hT g h hwl hws s1 s2 hwd hn
  go_enter Tryz.func74, Tryz.ntmps74
  go_wp2_with (first | (go_at_call 90; refine (hb _).mono ?_; rintro e w' ⟨rfl, rfl⟩))
  generalize W.alloc (.cells #[.int .i64 19, .int .i64 f3, .int .i64 (n : Int), .int .i64 (ix : Int), .slice ao f6 ca] 35) = W0 at *
  obtain ⟨B, hB⟩ : ∃ B, B = W.heap.size := ⟨_, rfl⟩
  rw [← hB] at x1 ⊢
  obtain ⟨q0, q1, q2, q3, q4⟩ := cell5 x1
  have HIN : Hid (Hid (Gr W W0.drew) ∧ W0.drew.cell? ⟨B, 2, none⟩ = some (.int .i64 (n : Int)) ∧ W0.drew.cell? ⟨B, 3, none⟩ = some (.int .i64 (ix : Int)) ∧ W0.drew.cell? ⟨0, ix * 5, none⟩ = some (.string (wdB ix)) ∧ W0.drew.cell? ⟨B, 4, none⟩ = some (.slice ao f6 ca)) := ⟨hg0.trans gr_drew (fun _ _ h => h), q2, q3, hg0.cell' hri id, q4⟩
  have HSk : Hid (∀ A C : World, (Hid (Gr W A) ∧ A.cell? ⟨B, 2, none⟩ = some (.int .i64 (n : Int)) ∧ A.cell? ⟨B, 3, none⟩ = some (.int .i64 (ix : Int)) ∧ A.cell? ⟨0, ix * 5, none⟩ = some (.string (wdB ix)) ∧ A.cell? ⟨B, 4, none⟩ = some (.slice ao f6 ca)) → Gr A C → (Hid (Gr W C) ∧ C.cell? ⟨B, 2, none⟩ = some (.int .i64 (n : Int)) ∧ C.cell? ⟨B, 3, none⟩ = some (.int .i64 (ix : Int)) ∧ C.cell? ⟨0, ix * 5, none⟩ = some (.string (wdB ix)) ∧ C.cell? ⟨B, 4, none⟩ = some (.slice ao f6 ca))) := fun A C h k => ⟨h.1.out.trans k (fun _ _ h => h), k.cell' h.2.1 id, k.cell' h.2.2.1 id, k.cell' h.2.2.2.1 id, k.cell' h.2.2.2.2 id⟩
  have hixI : (ix : Int) < 21 := by omega
  have hix0 : (0 : Int) ≤ (ix : Int) := by omega
  clear hri hg0 q0 q1 q2 q3 q4 hB
  refine wp_region_held_drew (S := fun w' => Hid (Gr W w') ∧ w'.cell? ⟨B, 2, none⟩ = some (.int .i64 (n : Int)) ∧ w'.cell? ⟨B, 3, none⟩ = some (.int .i64 (ix : Int)) ∧ w'.cell? ⟨0, ix * 5, none⟩ = some (.string (wdB ix)) ∧ w'.cell? ⟨B, 4, none⟩ = some (.slice ao f6 ca)) (by kernel_rfl) HIN.out (fun hHeld => ?_)
  refine wpAnyH_take (i := 0) (oi := { dst := some 28, op := Op.move (Operand.tmp 4), type := 22, pos := "print.go:65", after := #[], guard := none }) (v := ?v0u1) rfl (by kernel_rfl) (by kernel_rfl) (by kernel_rfl) (fun _ _ _ h => h) (Or.inl ⟨by rfl, ?y0u1⟩) (by assumption) ?r0u1
  case y0u1 => (intro w hSw; obtain ⟨-, s1, s2, s3, s4⟩ := hSw; go_simp; (try with_reducible rfl))
  (try simp only [Act.put]); (try simp only [List.setIfInBounds_toArray]); (try simp only [List.set_cons_succ]); (try simp only [List.set_cons_zero])
  refine wpAnyH_take (i := 1) (oi := { dst := some 29, op := Op.fieldAddr 35 (Operand.tmp 1) 2, type := 0, pos := "print.go:65", after := #[], guard := none }) (v := ?v1u2) rfl (by kernel_rfl) (by kernel_rfl) (by kernel_rfl) (fun _ _ _ h => h) (Or.inl ⟨by rfl, ?y1u2⟩) (by assumption) ?r1u2
  case y1u2 => (intro w hSw; obtain ⟨-, s1, s2, s3, s4⟩ := hSw; go_simp; (try with_reducible rfl))
  (try simp only [Act.put]); (try simp only [List.setIfInBounds_toArray]); (try simp only [List.set_cons_succ]); (try simp only [List.set_cons_zero])
  refine wpAnyH_take (i := 2) (oi := { dst := some 30, op := Op.load 3 (Operand.tmp 29), type := 3, pos := "print.go:65", after := #[{ on := 1, ground := Ground.data }], guard := none }) (v := ?v2u3) rfl (by kernel_rfl) (by kernel_rfl) (by kernel_rfl) (fun _ _ _ h => h) (Or.inl ⟨by rfl, ?y2u3⟩) (by assumption) ?r2u3
  case y2u3 => (intro w hSw; obtain ⟨-, s1, s2, s3, s4⟩ := hSw; go_simp; (try with_reducible rfl))
  (try simp only [Act.put]); (try simp only [List.setIfInBounds_toArray]); (try simp only [List.set_cons_succ]); (try simp only [List.set_cons_zero])
  refine wpAnyH_take (i := 4) (oi := { dst := some 32, op := Op.fieldAddr 35 (Operand.tmp 1) 3, type := 0, pos := "print.go:65", after := #[], guard := none }) (v := ?v4u4) rfl (by kernel_rfl) (by kernel_rfl) (by kernel_rfl) (fun _ _ _ h => h) (Or.inl ⟨by rfl, ?y4u4⟩) (by assumption) ?r4u4
  case y4u4 => (intro w hSw; obtain ⟨-, s1, s2, s3, s4⟩ := hSw; go_simp; (try with_reducible rfl))
  (try simp only [Act.put]); (try simp only [List.setIfInBounds_toArray]); (try simp only [List.set_cons_succ]); (try simp only [List.set_cons_zero])
  refine wpAnyH_take (i := 5) (oi := { dst := some 33, op := Op.load 3 (Operand.tmp 32), type := 3, pos := "print.go:65", after := #[{ on := 4, ground := Ground.data }], guard := none }) (v := ?v5u5) rfl (by kernel_rfl) (by kernel_rfl) (by kernel_rfl) (fun _ _ _ h => h) (Or.inl ⟨by rfl, ?y5u5⟩) (by assumption) ?r5u5
  case y5u5 => (intro w hSw; obtain ⟨-, s1, s2, s3, s4⟩ := hSw; go_simp; (try with_reducible rfl))
  (try simp only [Act.put]); (try simp only [List.setIfInBounds_toArray]); (try simp only [List.set_cons_succ]); (try simp only [List.set_cons_zero])
  refine wpAnyH_take (i := 6) (oi := { dst := some 34, op := Op.indexAddr 137 (Operand.global 0) (Operand.tmp 33), type := 0, pos := "print.go:65", after := #[{ on := 5, ground := Ground.data }], guard := none }) (v := ?v6u6) rfl (by kernel_rfl) (by kernel_rfl) (by kernel_rfl) (fun _ _ _ h => h) (Or.inl ⟨by rfl, ?y6u6⟩) (by assumption) ?r6u6
  case y6u6 => (intro w hSw; obtain ⟨-, s1, s2, s3, s4⟩ := hSw; go_simp; (try with_reducible rfl))
  (try simp only [Act.put]); (try simp only [List.setIfInBounds_toArray]); (try simp only [List.set_cons_succ]); (try simp only [List.set_cons_zero])
  refine wpAnyH_take (i := 7) (oi := { dst := some 35, op := Op.fieldAddr 136 (Operand.tmp 34) 0, type := 0, pos := "print.go:65", after := #[{ on := 6, ground := Ground.data }], guard := none }) (v := ?v7u7) rfl (by kernel_rfl) (by kernel_rfl) (by kernel_rfl) (fun _ _ _ h => h) (Or.inl ⟨by rfl, ?y7u7⟩) (by assumption) ?r7u7
  case y7u7 => (intro w hSw; obtain ⟨-, s1, s2, s3, s4⟩ := hSw; go_simp; (try with_reducible rfl))
  (try simp only [Act.put]); (try simp only [List.setIfInBounds_toArray]); (try simp only [List.set_cons_succ]); (try simp only [List.set_cons_zero])
  refine wpAnyH_take (i := 8) (oi := { dst := some 36, op := Op.load 9 (Operand.tmp 35), type := 9, pos := "print.go:65", after := #[{ on := 7, ground := Ground.data }], guard := none }) (v := ?v8u8) rfl (by kernel_rfl) (by kernel_rfl) (by kernel_rfl) (fun _ _ _ h => h) (Or.inl ⟨by rfl, ?y8u8⟩) (by assumption) ?r8u8
  case y8u8 => (intro w hSw; obtain ⟨-, s1, s2, s3, s4⟩ := hSw; go_simp; (try with_reducible rfl))
  (try simp only [Act.put]); (try simp only [List.setIfInBounds_toArray]); (try simp only [List.set_cons_succ]); (try simp only [List.set_cons_zero])
  refine wpAnyH_ready (rs := [3]) (by kernel_rfl) (by simp) ?_
  refine AllReadyH.cons (o := { dst := some 31, op := Op.call { callee := Callee.value (Operand.func 107), args := #[Operand.tmp 30], argTypes := #[3] }, type := 9, pos := "print.go:65", after := #[{ on := 2, ground := Ground.data }], guard := none }) rfl (fun K hK => ?_) AllReadyH.nil
  go_simp
  go_at_call 107
  refine Calls.mono (HIt.out _) ?_
  rintro e' v1 ⟨rfl, rfl⟩
  go_wp2_with fail
  refine hK.out _ _ hHeld (fun hHeld => ?_)
  clear hK K
  (try simp only [Act.put]); (try simp only [List.setIfInBounds_toArray]); (try simp only [List.set_cons_succ]); (try simp only [List.set_cons_zero])
  refine wpAnyH_ready (rs := [9]) (by kernel_rfl) (by simp) ?_
  refine AllReadyH.cons (o := { dst := some 37, op := Op.buildSlice 22 2 #[(0, Operand.tmp 31), (1, Operand.tmp 36)], type := 22, pos := "print.go:65", after := #[{ on := 3, ground := Ground.data }, { on := 8, ground := Ground.data }], guard := none }) rfl (fun K hK => ?_) AllReadyH.nil
  go_simp
  refine hK.out _ _ (HSk.out _ _ hHeld (by first | exact gr_alloc _ _ | exact gr_allocD2 _ _)) (fun hHeld => ?_)
  clear hK K
  (try simp only [Act.put]); (try simp only [List.setIfInBounds_toArray]); (try simp only [List.set_cons_succ]); (try simp only [List.set_cons_zero])
  refine wpAnyH_ready (rs := [10]) (by kernel_rfl) (by simp) ?_
  refine AllReadyH.cons (o := { dst := some 38, op := Op.call { callee := Callee.builtin Builtin.append, args := #[Operand.tmp 28, Operand.tmp 37], argTypes := #[22, 22] }, type := 22, pos := "print.go:65", after := #[{ on := 0, ground := Ground.data }, { on := 9, ground := Ground.data }, { on := 3, ground := Ground.chain }], guard := none }) rfl (fun K hK => ?_) AllReadyH.nil
  refine step_append_any _ rfl (.tmp 28) (.tmp 37) 22 22 rfl 9 (.string ⟨#[]⟩) 16 Tryz.underlying22 info9 rfl (.slice none 0 0) 0 [] rfl (World.ownsRow_nil _ _ _ _) _ 2 [.string (decB n), .string (wdB ix)] rfl (src_str2 W0.drew (decB n) (wdB ix)) (by omega) (by omega) ?_
  intro v' w1 hown' hgrow hblk
  obtain ⟨vo1, vc1, rfl⟩ := own_form hown'
  have HS1 : Hid (Strs W w1 vo1 vc1 [decB n, wdB ix]) := (Strs.nil W _ hHeld.1.out).app (us := [decB n, wdB ix]) rfl hown' hgrow hblk
  have hgg := hidM ((Keeps.ofGrown hgrow).mono (T := fun _ => False) fun b _ e => by have e' : (Value.slice none 0 0).ownBlock = some b := e; simp [Value.ownBlock] at e')
  refine hK.out _ _ (HSk.out _ _ hHeld hgg.out) (fun hHeld => ?_)
  clear hK K hgg hown' hgrow hblk
  (try simp only [Act.put]); (try simp only [List.setIfInBounds_toArray]); (try simp only [List.set_cons_succ]); (try simp only [List.set_cons_zero])
  refine wpAnyH_take (i := 11) (oi := { dst := some 4, op := Op.assign (Operand.tmp 38), type := 22, pos := "print.go:65", after := #[{ on := 10, ground := Ground.data }, { on := 10, ground := Ground.chain }, { on := 0, ground := Ground.phase }, { on := 1, ground := Ground.phase }, { on := 2, ground := Ground.phase }, { on := 3, ground := Ground.phase }, { on := 4, ground := Ground.phase }, { on := 5, ground := Ground.phase }, { on := 6, ground := Ground.phase }, { on := 7, ground := Ground.phase }, { on := 8, ground := Ground.phase }, { on := 9, ground := Ground.phase }, { on := 10, ground := Ground.phase }], guard := none }) (v := ?v11u9) rfl (by kernel_rfl) (by kernel_rfl) (by kernel_rfl) (fun _ _ _ h => h) (Or.inl ⟨by rfl, ?y11u9⟩) (by assumption) ?r11u9
  case y11u9 => (intro w hSw; obtain ⟨-, s1, s2, s3, s4⟩ := hSw; go_simp; (try with_reducible rfl))
  (try simp only [Act.put]); (try simp only [List.setIfInBounds_toArray]); (try simp only [List.set_cons_succ]); (try simp only [List.set_cons_zero])
  refine wpAnyH_done (by kernel_rfl) ?_ _
  have y4 := hHeld.2.2.2.2
  clear hHeld HIN
  go_wp2_with (go_at_call 40; refine Hid.out ?_)
  unfold Hid
  refine Calls.mono (H.out _ HS1.out.gr) ?_
  rintro e W1 ⟨vo, vc, rfl, hs⟩
  have HS := hidM hs
  have HS1' := hidM (HS1.out.gr' hs.gr)
  clear hs
  go_wp2_with (at_builtin; refine Hid.out ?_)
  unfold Hid
  refine wpList_append_any _ rfl (.tmp 39) (.tmp 42) 22 22 rfl 9 (.string ⟨#[]⟩) 16 Tryz.underlying22 info9 rfl _ 2 ([decB n, wdB ix].map Value.string) rfl HS1'.out.own _ ts.length (ts.map Value.string) rfl (src_strs HS.out) (by omega) (by omega) ?_
  intro v'' w3 hown2 hgrow2 hblk2
  obtain ⟨vo2, vc2, rfl⟩ := own_form hown2
  have HS2 : Hid (Strs W w3 vo2 vc2 ([decB n, wdB ix] ++ ts)) := HS1'.out.app (by simp) hown2 hgrow2 hblk2
  clear hown2 hgrow2 hblk2 HS HS1 HS1'
  go_wp2_with (go_at_call 39; refine Hid.out ?_)
  unfold Hid
  refine Calls.mono (HJ.out _ _ _ _ (by simp; try omega) HS2.out) ?_
  rintro e W3 ⟨rfl, hg3⟩
  have HE := hidM (HS2.out.gr.trans hg3 (fun _ _ h => h))
  clear hg3
  go_wp2_with fail
  go_ret
  exact ⟨rfl, HE.out⟩
end Go.Proofs.YtkodgneneiledaaGreatDoor.Kit
namespace Go.Proofs.YtkodgneneiledaaGreatDoor.Kit
open Go.RowKit Go.Shelf Go.Deep
set_option linter.unusedVariables false

theorem nums_join {f : FT} (h : tableB f = true) (ts : List ByteArray) (hs : (ts.map fun t => t.size + 2).sum ≤ 1000000) : (joinB (numsB f ++ ts)).size ≤ 1000000000000 := by
  have h1 := joinB_size (numsB f ++ ts)
  have h2 := nums_size h
  rw [List.map_append, List.sum_append] at h1
  omega
/-- the program's text of a type -/
theorem typeText_any {f : FT} {ao : Option Addr} {ca : Nat} {w : World} (hT : Tab w) (ok : tableB f = true) (ts : List ByteArray) (hl : ts.length ≤ 1000000) (hs : (ts.map fun t => t.size + 2).sum ≤ 1000000)
    (h : ∀ W, Gr w W → Calls Tryz.prog 40 #[.slice ao f.kids.length ca] W fun e w' => ∃ vo vc, e = .returned (.slice vo ts.length vc) ∧ Strs W w' vo vc ts) :
    AnsV 74 #[.agg #[.int .i64 f.kind, .int .i64 f.width, .int .i64 f.id, .int .i64 f.index, .slice ao f.kids.length ca]] (.string (tyB f ts)) w := by
  have hj := nums_join ok ts hs
  obtain ⟨h1, h2, h3, h4, -⟩ := tableB_nums ok
  obtain ⟨k, hk⟩ : ∃ k : Nat, f.kind = (k : Int) := ⟨f.kind.toNat, by omega⟩
  have hk' : f.kind.toNat = k := by omega
  by_cases c1 : k < 14
  · have e : tyB f ts = ⟨(wordK k).toArray⟩ := by unfold tyB; rw [if_pos (by omega), hk']; rfl
    rw [e, hk]
    exact typeText_plain k c1 f.width f.id f.index ao _ ca w hT
  have e : tyB f ts = brackB k (numsB f ++ ts) := by unfold tyB; rw [if_neg (by omega), hk']
  rw [e]
  by_cases c2 : k = 14 ∨ k = 16
  · obtain ⟨n, hn⟩ : ∃ n : Nat, f.width = (n : Int) := ⟨f.width.toNat, by have := h3 (by omega); omega⟩
    have hn1 : n < 100 := by have := h3 (by omega); omega
    have e2 : numsB f = [decB n] := by unfold numsB; rw [if_pos (by omega), hn]; rfl
    rw [e2] at hj ⊢
    rw [hn, hk]
    rcases c2 with rfl | rfl
    · exact typeText_num14 n hn1 f.id f.index ao _ ca ts hl hj w hT h
    · exact typeText_num16 n hn1 f.id f.index ao _ ca ts hl hj w hT h
  by_cases c3 : k = 19
  · subst c3
    obtain ⟨i1, i2, i3, i4⟩ := h4 hk
    obtain ⟨n, hn⟩ : ∃ n : Nat, f.id = (n : Int) := ⟨f.id.toNat, by omega⟩
    obtain ⟨ix, hix⟩ : ∃ ix : Nat, f.index = (ix : Int) := ⟨f.index.toNat, by omega⟩
    have e2 : numsB f = [decB n, wdB ix] := by unfold numsB; rw [if_neg (by omega), if_pos (by omega), hn, hix]; rfl
    rw [e2] at hj ⊢
    rw [hn, hix, hk]
    exact typeText_dict n ix (by omega) (by omega) f.width ao _ ca ts hl hj w hT h
  · have e2 : numsB f = [] := by unfold numsB; rw [if_neg (by omega), if_neg (by omega)]
    rw [e2, List.nil_append] at hj ⊢
    rw [hk]
    exact typeText_brack k (by omega) f.width f.id f.index ao _ ca ts hl hj w hT h
theorem kids_le {f : FT} (h : tableB f = true) : f.kids.length ≤ 32 := by
  obtain ⟨k, _, _, _, h, _⟩ := table_of h
  exact h
theorem txK_eq {d : Nat} {f : FT} (h : deep d f.kids) : txK (d) f = f.kids.map (txF (d - 1)) := by
  cases d with
  | zero => have : f.kids = [] := h; simp [txK, this]
  | succ d => rfl
theorem deep_of {S : Nat → Prop} {w : World} {d : Nat} {ao : Option Addr} {l : List FT} (h : RowAt S w d ao l) (hd : d = 0) : l = [] := by subst hd; exact h
/-- the program's text of a field -/
theorem fieldText_any (S : Nat → Prop) : ∀ (d : Nat) (f : FT) (ao : Option Addr) (ca : Nat) (w : World), Tab w → (∀ b, S b → b < w.heap.size) → RowAt S w d ao f.kids → okF f → (∀ g ∈ pre d f.kids, okF g) → (pre d f.kids).length ≤ 256 →
    AnsV 45 #[fldV f ao ca] (.string (txF d f)) w
  | d, f, ao, ca, w, hT, hS, hr, ok, hp, hl => by
    have hk : f.kids.map (txF (d - 1)) = txK d f := by
      cases d with
      | zero => have : f.kids = [] := hr; simp [txK, this]
      | succ d => rfl
    have hkl := kids_le ok.2
    have hsum : ((txK d f).map fun t => t.size + 2).sum ≤ 1000000 := by
      cases d with
      | zero => simp [txK]
      | succ d => have := tx_sum hp; show (((f.kids.map (txF d))).map fun t => t.size + 2).sum ≤ _; omega
    have h23 : ∀ W, Gr w W → Calls Tryz.prog 40 #[.slice ao f.kids.length ca] W fun e w' => ∃ vo vc, e = .returned (.slice vo (txK d f).length vc) ∧ Strs W w' vo vc (txK d f) := by
      have h := fieldTexts_walk f.kids (txF (d - 1)) S d ao ca w hr hS ?_
      · intro W g
        have h' := h W g
        rw [hk] at h'
        have e : (txK d f).length = f.kids.length := by rw [← hk]; simp
        rw [e]
        exact h'
      · intro i hi ao' ca' hr' hle
        cases d with
        | zero => have : f.kids = [] := hr; rw [this] at hi; simp at hi
        | succ d =>
          have hmem : f.kids[i] ∈ f.kids := List.getElem_mem hi
          have hsub : ∀ g, g = f.kids[i] ∨ g ∈ pre d f.kids[i].kids → g ∈ pre (d + 1) f.kids := fun g hg => by
            have e : pre (d + 1) f.kids = f.kids.flatMap fun f => f :: pre d f.kids := rfl
            rw [e, List.mem_flatMap]
            exact ⟨_, hmem, by simpa using hg⟩
          have hlen : (pre d f.kids[i].kids).length ≤ 256 := by
            have e : pre (d + 1) f.kids = f.kids.flatMap fun f => f :: pre d f.kids := rfl
            have hle : ∀ (l : List FT) (g : FT), g ∈ l → (pre d g.kids).length ≤ (l.flatMap fun f => f :: pre d f.kids).length := fun l => by
              induction l with
              | nil => intro g hg; simp at hg
              | cons x l ih =>
                intro g hg
                rw [List.flatMap_cons, List.length_append]
                rcases List.mem_cons.1 hg with rfl | hg
                · simp; omega
                · have := ih g hg; omega
            have := hle f.kids _ hmem
            rw [e] at hl
            omega
          exact fieldText_any S d f.kids[i] ao' ca' w hT hS hr' (hp _ (hsub _ (.inl rfl))) (fun g hg => hp g (hsub g (.inr hg))) hlen
    have h50 := typeText_any hT ok.2 (txK d f) (by rw [← hk]; simp; omega) hsum h23
    have hts : (tyB f (txK d f)).size ≤ 1000000000000 := by have := tyB_size ok.2 (txK d f); omega
    have h29 := fieldText_walk f.name f.nul f.kind f.width f.id f.index ao f.kids.length ca (tyB f (txK d f)) w (by have := ok.1; omega) hts h50
    rw [txF_eq]
    exact h29
/-- the program's texts of fields -/
theorem fieldTexts_any (S : Nat → Prop) (d : Nat) (l : List FT) (ao : Option Addr) (ca : Nat) (w : World) (hT : Tab w) (hS : ∀ b, S b → b < w.heap.size) (hr : RowAt S w d ao l) (hp : ∀ g ∈ pre d l, okF g) (hl : (pre d l).length ≤ 256) :
    ∀ W, Gr w W → Calls Tryz.prog 40 #[.slice ao l.length ca] W fun e w' => ∃ vo vc, e = .returned (.slice vo l.length vc) ∧ Strs W w' vo vc (l.map (txF (d - 1))) := by
  refine fieldTexts_walk l (txF (d - 1)) S d ao ca w hr hS ?_
  intro i hi ao' ca' hr' hle
  cases d with
  | zero => have : l = [] := hr; rw [this] at hi; simp at hi
  | succ d =>
    have hmem : l[i] ∈ l := List.getElem_mem hi
    have e : pre (d + 1) l = l.flatMap fun f => f :: pre d f.kids := rfl
    have hsub : ∀ g, g = l[i] ∨ g ∈ pre d l[i].kids → g ∈ pre (d + 1) l := fun g hg => by
      rw [e, List.mem_flatMap]
      exact ⟨_, hmem, by simpa using hg⟩
    have hle : ∀ (l : List FT) (g : FT), g ∈ l → (pre d g.kids).length ≤ (l.flatMap fun f => f :: pre d f.kids).length := fun l => by
      induction l with
      | nil => intro g hg; simp at hg
      | cons x l ih =>
        intro g hg
        rw [List.flatMap_cons, List.length_append]
        rcases List.mem_cons.1 hg with rfl | hg
        · simp; omega
        · have := ih g hg; omega
    have := hle l _ hmem
    rw [e] at hl
    exact fieldText_any S d l[i] ao' ca' w hT hS hr' (hp _ (hsub _ (.inl rfl))) (fun g hg => hp g (hsub g (.inr hg))) (by omega)
end Go.Proofs.YtkodgneneiledaaGreatDoor.Kit
