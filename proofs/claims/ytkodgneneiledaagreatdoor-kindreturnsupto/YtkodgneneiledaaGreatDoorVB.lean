import Derived.Test.YtkodgneneiledaaGreatDoorWY
import Derived.Test.YtkodgneneiledaaGreatDoorTS
import Derived.Test.YtkodgneneiledaaGreatDoorND
namespace Go.Proofs.YtkodgneneiledaaGreatDoor.Kit
open Go.RowKit Go.Shelf Go.Deep
set_option linter.unusedVariables false
attribute [local go_sem] run_store_func

/-! ### pure: depth by number, the text's size -/
theorem deep_nil : ∀ k, deep k []
  | 0 => rfl
  | k + 1 => fun f h => by cases h
theorem deep_few : ∀ (d : Nat) (l : List FT) (k : Nat), deep d l → (pre d l).length ≤ k → deep k l
  | 0, l, k, h, _ => by have : l = [] := h; subst this; exact deep_nil k
  | d + 1, l, 0, h, hl => by
    cases l with
    | nil => exact deep_nil 0
    | cons f l => rw [pre, List.flatMap_cons] at hl; simp at hl
  | d + 1, l, k + 1, h, hl => fun f hf => by
    refine deep_few d f.kids k (h f hf) ?_
    rw [pre] at hl
    obtain ⟨l1, l2, rfl⟩ := List.append_of_mem hf
    rw [List.flatMap_append, List.flatMap_cons] at hl
    simp at hl
    omega
theorem pre_deep : ∀ (e d : Nat) (l : List FT), deep e l → e ≤ d → pre d l = pre e l
  | 0, d, l, h, _ => by have : l = [] := h; subst this; cases d <;> rfl
  | e + 1, 0, l, h, hd => absurd hd (by omega)
  | e + 1, d + 1, l, h, hd => by
    rw [pre, pre]
    have : ∀ f ∈ l, (f :: pre d f.kids) = f :: pre e f.kids := fun f hf => by rw [pre_deep e d f.kids (h f hf) (by omega)]
    clear h
    induction l with
    | nil => rfl
    | cons x l ih => rw [List.flatMap_cons, List.flatMap_cons, this x (by simp), ih fun f hf => this f (by simp [hf])]
theorem RowAt.cut {S : Nat → Prop} {W : World} : ∀ {d e : Nat} {ao : Option Addr} {l : List FT}, RowAt S W d ao l → Kit.deep e l → RowAt S W e ao l
  | _, 0, _, _, _, he => he
  | 0, e + 1, _, _, h, _ => by have : _ = [] := h; subst this; exact ⟨by simp [big], fun h => absurd rfl h⟩
  | d + 1, e + 1, ao, l, h, he => ⟨h.1, fun hn => by
    obtain ⟨b, o, e1, hb, hi⟩ := h.2 hn
    refine ⟨b, o, e1, hb, fun i hl => ?_⟩
    obtain ⟨ao', ca', hc, hle, hr⟩ := hi i hl
    exact ⟨ao', ca', hc, hle, RowAt.cut hr (he _ (List.getElem_mem hl))⟩⟩
theorem tx_size1 : ∀ (d : Nat) (f : FT), okF f → (∀ g ∈ pre d f.kids, okF g) → (txF d f).size + 2 ≤ 100 * (1 + (pre d f.kids).length)
  | 0, f, h, _ => by
    have h1 := fdB_size f (tyB f [])
    have h2 := tyB_size h.2 []
    have := h.1
    show (fdB f (tyB f [])).size + 2 ≤ _
    simp only [List.map_nil, List.sum_nil] at h2
    omega
  | d + 1, f, h, hk => by
    have h1 := fdB_size f (tyB f (f.kids.map (txF d)))
    have h2 := tyB_size h.2 (f.kids.map (txF d))
    have := h.1
    have key : ∀ l : List FT, (∀ g ∈ pre (d + 1) l, okF g) → ((l.map (txF d)).map fun t => t.size + 2).sum ≤ 100 * (pre (d + 1) l).length := fun l => by
      induction l with
      | nil => intro _; simp
      | cons g l ih =>
        intro hl
        have e : pre (d + 1) (g :: l) = (g :: pre d g.kids) ++ pre (d + 1) l := rfl
        rw [e] at hl ⊢
        have i1 := ih fun x hx => hl x (List.mem_append_right _ hx)
        have i2 := tx_size1 d g (hl g (by simp)) fun x hx => hl x (by simp [hx])
        simp only [List.map_cons, List.sum_cons, List.length_append, List.length_cons]
        omega
    have := key f.kids hk
    show (fdB f (tyB f (f.kids.map (txF d)))).size + 2 ≤ _
    omega
theorem tx_sum1 {d : Nat} {l : List FT} (h : ∀ g ∈ pre (d + 1) l, okF g) : ((l.map (txF d)).map fun t => t.size + 2).sum ≤ 100 * (pre (d + 1) l).length := by
  induction l with
  | nil => simp
  | cons g l ih =>
    have e : pre (d + 1) (g :: l) = (g :: pre d g.kids) ++ pre (d + 1) l := rfl
    rw [e] at h ⊢
    have i1 := ih fun x hx => h x (List.mem_append_right _ hx)
    have i2 := tx_size1 d g (h g (by simp)) fun x hx => h x (by simp [hx])
    simp only [List.map_cons, List.sum_cons, List.length_append, List.length_cons]
    omega
theorem lists_ok {nf : Nat} {l : List (ByteArray × ByteArray)} (h : (listsE nf l).1 = 0) : l.length ≤ 16 ∧ ∀ n ∈ l, n.1.size ≤ 256 ∧ n.2.size ≤ 256 := by
  unfold listsE at h
  split at h
  · simp at h
  split at h
  · simp at h
  split at h
  · simp at h
  rename_i h1 h2
  refine ⟨by omega, fun n hn => ?_⟩
  have hb : noteBad n = false := by
    cases hc : noteBad n with
    | false => rfl
    | true => exact absurd (List.findIdx_lt_length_of_exists ⟨n, hn, hc⟩) h2
  unfold noteBad at hb
  simp at hb
  omega
theorem nts_sum1 {l : List (ByteArray × ByteArray)} (h : ∀ n ∈ l, n.1.size ≤ 256 ∧ n.2.size ≤ 256) : ((l.map ntB).map fun t => t.size + 2).sum ≤ 2055 * l.length := by
  induction l with
  | nil => simp
  | cons x l ih =>
    have i1 := ih fun n hn => h n (by simp [hn])
    have h1 := h x (by simp)
    have a := qtB_size x.1
    have b := qtB_size x.2
    have e : (ntB x).size ≤ 2053 := by
      unfold ntB
      rw [ByteArray.size_append, ByteArray.size_append]
      have : (⟨#[32]⟩ : ByteArray).size = 1 := rfl
      omega
    simp only [List.map_cons, List.sum_cons, List.length_cons]
    omega
/-- a schema that may be, as data -/
structure May (l : List FT) (ns : List (ByteArray × ByteArray)) : Prop where
  lists : (listsE l.length ns).1 = 0
  all : AllR (nodes (D0 + 1) l [] false)
  deep : Kit.deep 257 l
def scT (l : List FT) (ns : List (ByteArray × ByteArray)) : ByteArray := prB (joinB (l.map (txF 256))) (ns.map ntB)
theorem May.ok {l : List FT} {ns : List (ByteArray × ByteArray)} (h : May l ns) : (∀ g ∈ pre 257 l, okF g) ∧ (pre 257 l).length ≤ 256 := by
  have := allr_ok h.all
  rwa [pre_deep 257 (D0 + 1) l h.deep (by show 257 ≤ 65538; omega)] at this
theorem may_of {l : List FT} {ns : List (ByteArray × ByteArray)} (h1 : (listsE l.length ns).1 = 0) (h2 : AllR (nodes (D0 + 1) l [] false)) (h3 : Kit.deep (D0 + 1) l) : May l ns :=
  ⟨h1, h2, deep_few (D0 + 1) l 257 h3 (Nat.le_trans (allr_ok h2).2 (by omega))⟩
theorem May.fl {l : List FT} {ns : List (ByteArray × ByteArray)} (h : May l ns) : l.length ≤ 256 := by
  have hle : ∀ (d : Nat) (l : List FT), l.length ≤ (pre (d + 1) l).length := fun d l => by
    rw [pre]
    induction l with
    | nil => simp
    | cons x l ih => rw [List.flatMap_cons, List.length_append, List.length_cons, List.length_cons]; omega
  exact Nat.le_trans (hle 256 l) h.ok.2
theorem May.sizes {l : List FT} {ns : List (ByteArray × ByteArray)} (h : May l ns) : (joinB (l.map (txF 256))).size ≤ 25600 ∧ (joinB (ns.map ntB)).size ≤ 32880 := by
  have h1 := tx_sum1 h.ok.1
  have h2 := joinB_size (l.map (txF 256))
  have h3 := lists_ok h.lists
  have h4 := nts_sum1 h3.2
  have h5 := joinB_size (ns.map ntB)
  have h6 : (pre (256 + 1) l).length ≤ 256 := h.ok.2
  omega
theorem May.size {l : List FT} {ns : List (ByteArray × ByteArray)} (h : May l ns) : (scT l ns).size ≤ 65536 := by
  obtain ⟨a, b⟩ := h.sizes
  have e1 : (⟨#[32]⟩ : ByteArray).size = 1 := rfl
  have e2 : (⟨#[124, 32]⟩ : ByteArray).size = 2 := rfl
  unfold scT prB
  split
  · omega
  · rw [ByteArray.size_append, ByteArray.size_append]
    split
    · omega
    · rw [ByteArray.size_append]; omega
end Go.Proofs.YtkodgneneiledaaGreatDoor.Kit
namespace Go.Proofs.YtkodgneneiledaaGreatDoor.Kit
open Go.RowKit Go.Shelf Go.Deep
set_option linter.unusedVariables false
attribute [local go_sem] run_store_func

/-! ### there and back, of a schema that may be -/
def okN (g : FT) : Prop := Wd g.name.data.toList ∧ tableB g = true
theorem allr_okN {D : Nat} {l : List FT} {p : List Nat} {q : Bool} (h : AllR (nodes D l p q)) : ∀ g ∈ pre D l, okN g := by
  rw [← nodes_pre D l p q]
  intro g hg
  obtain ⟨s, hs, rfl⟩ := List.mem_map.1 hg
  obtain ⟨k, hk, rfl⟩ := List.mem_iff_getElem.1 hs
  obtain ⟨h1, h2, -⟩ := allr_nd h hk
  refine ⟨⟨fun e => ?_, fun b hb => ?_⟩, h2⟩
  · unfold nameB at h1
    simp only [Bool.and_eq_true, decide_eq_true_eq] at h1
    have h0 := h1.1.1.1
    have : (((nodes D l p q)[k]).fld.name.data.toList).length = 0 := by rw [e]; rfl
    have e2 : ((nodes D l p q)[k]).fld.name.size = (((nodes D l p q)[k]).fld.name.data.toList).length := by simp
    omega
  · unfold nameB at h1
    simp only [Bool.and_eq_true, List.all_eq_true] at h1
    exact h1.2 b hb
theorem okT_of : ∀ (d : Nat) (f : FT), Kit.deep d f.kids → okN f → (∀ g ∈ pre d f.kids, okN g) → OkT d f
  | 0, f, h, hf, _ => ⟨hf.1, hf.2, h⟩
  | d + 1, f, h, hf, hk => ⟨hf.1, hf.2, fun x hx => okT_of d x (h x hx) (hk x (List.mem_flatMap.2 ⟨x, hx, by simp⟩)) fun g hg => hk g (List.mem_flatMap.2 ⟨x, hx, by simp [hg]⟩)⟩
theorem May.okT {l : List FT} {ns : List (ByteArray × ByteArray)} (h : May l ns) : ∀ f ∈ l, OkT 256 f := fun f hf => by
  have hp := allr_okN h.all
  rw [pre_deep 257 (D0 + 1) l h.deep (by show 257 ≤ 65538; omega)] at hp
  exact okT_of 256 f (h.deep f hf) (hp f (List.mem_flatMap.2 ⟨f, hf, by simp⟩)) fun g hg => hp g (List.mem_flatMap.2 ⟨f, hf, by simp [hg]⟩)
theorem joinB_list (ts : List ByteArray) : (joinB ts).data.toList = Lib.join (ts.map (·.data.toList)) [44, 32] := by unfold joinB; simp
theorem May.text {l : List FT} {ns : List (ByteArray × ByteArray)} (h : May l ns) : (scT l ns).data.toList = schL 256 l ns := by
  have hj : (joinB (l.map (txF 256)) = ⟨#[]⟩) ↔ l = [] := by
    constructor
    · intro e
      cases l with
      | nil => rfl
      | cons f l =>
        obtain ⟨c, r, ec, _⟩ := tx_first (h.okT f (by simp))
        have := congrArg (fun b : ByteArray => b.data.toList) e
        rw [joinB_list] at this
        simp only [List.map_cons, Lib.join_cons, ec] at this
        cases this
    · intro e; subst e; rfl
  have em : (l.map (txF 256)).map (·.data.toList) = l.map fun f => (txF 256 f).data.toList := by simp
  have en : (ns.map ntB).map (·.data.toList) = ns.map fun n => (ntB n).data.toList := by simp
  unfold scT prB schL
  by_cases h0 : ns = []
  · subst h0
    simp [joinB_list, em]
  · have h1 : ¬ ns.map ntB = [] := by simpa using h0
    rw [if_neg h1, if_neg h0]
    by_cases h2 : l = []
    · have h3 := hj.2 h2
      rw [if_pos h3, if_pos h2, h3, h2]
      simp [ByteArray.data_append, joinB_list, Lib.join_nil]
      rfl
    · have h3 : ¬ joinB (l.map (txF 256)) = ⟨#[]⟩ := fun e => h2 (hj.1 e)
      rw [if_neg h3, if_neg h2]
      simp [ByteArray.data_append, joinB_list]
      rfl
theorem May.back {l : List FT} {ns : List (ByteArray × ByteArray)} (h : May l ns) : ∃ a g, parseP (scT l ns).data.toList (0, []) = .ok ((l, ns), (a, g)) := by
  rw [h.text]
  have h3 := lists_ok h.lists
  exact parse_back (by decide) l ns h.okT (Nat.lt_of_le_of_lt h.fl (by decide)) (fun n hn => by have := h3.2 n hn; exact ⟨Nat.lt_of_le_of_lt this.1 (by decide), Nat.lt_of_le_of_lt this.2 (by decide)⟩) (Nat.lt_of_le_of_lt h3.1 (by decide))
/-- what is printed is read as that -/
theorem May.reads {l : List FT} {ns : List (ByteArray × ByteArray)} (h : May l ns) {W w' : World} {e : Ending} (hq : ParQ W (scT l ns) (schP (scT l ns).data.toList) e w') :
    Gr W w' ∧ ∃ fo fc no nc, e = .returned (.tuple #[.agg #[.slice fo l.length fc, .slice no ns.length nc], .int .i64 0, .int .i64 0]) ∧ l.length ≤ fc ∧ ns.length ≤ big ∧ RowAt (fun z => W.heap.size ≤ z ∧ z < w'.heap.size) w' (D0 + 1) fo l ∧ LAt W w' 70 2 ncel ns no nc := by
  obtain ⟨a, g, hb⟩ := h.back
  have hb : whP (scT l ns).data.toList (schP (scT l ns).data.toList) (0, []) = .ok ((l, ns), (a, g)) := hb
  refine ⟨hq.1, ?_⟩
  rcases hq.2 with ⟨er, at_, hne, hbad, rfl⟩ | ⟨l', ns', a', g', fo, fc, no, nc, h1, h2, h3, h4, h5, h6, h7, h8, h9⟩
  · exfalso
    rcases hbad with ⟨h1, _⟩ | ⟨_, o, h1, _⟩ | ⟨_, l', ns', a', g', h1, h2⟩
    · have := h.size; omega
    · rw [hb] at h1; cases h1
    · rw [hb] at h1
      cases h1
      rcases h2 with ⟨h2, _⟩ | ⟨_, L, x, h2, _, h3, _⟩
      · exact h2 h.lists
      · exact h3 (h.all.pre h2)
  · rw [hb] at h2
    cases h2
    exact ⟨fo, fc, no, nc, h6, h7, h5, h8, h9⟩
/-- a schema that may be, in memory -/
structure MayAt (S : Nat → Prop) (w : World) (l : List FT) (ns : List (ByteArray × ByteArray)) (fo : Option Addr) (fc : Nat) (no : Option Addr) : Prop where
  may : May l ns
  cap : l.length ≤ fc
  row : RowAt S w (D0 + 1) fo l
  notes : NotesAt w no ns
  tab : Tab w
  low : ∀ b, S b → b < w.heap.size
theorem MayAt.gr {S : Nat → Prop} {w W : World} {l : List FT} {ns : List (ByteArray × ByteArray)} {fo : Option Addr} {fc : Nat} {no : Option Addr} (h : MayAt S w l ns fo fc no) (g : Gr w W) : MayAt S W l ns fo fc no :=
  ⟨h.may, h.cap, h.row.kept fun b hb => g.block b (h.low b hb) id, h.notes.gr g, h.tab.gr g, fun b hb => Nat.lt_of_lt_of_le (h.low b hb) g.size⟩
theorem MayAt.check {S : Nat → Prop} {w : World} {l : List FT} {ns : List (ByteArray × ByteArray)} {fo : Option Addr} {fc nc : Nat} {no : Option Addr} (h : MayAt S w l ns fo fc no) : ∀ W, Gr w W → Calls Tryz.prog 12 #[.agg #[.slice fo l.length fc, .slice no ns.length nc]] W fun e w' => ∃ vo vn vc, e = .returned (.agg #[.int .i64 0, .slice vo vn vc, .int .i64 0]) ∧ Gr W w' ∧ True :=
  check_walk fo no l.length fc ns.length nc 0 _ (fun _ _ _ _ => True) (fun _ _ _ _ _ _ _ h _ _ => h) w (look_ok h.tab h.row h.cap (by show 65538 ≤ 1000000000000; omega) h.low h.notes h.may.lists h.may.all)
theorem MayAt.maybe {S : Nat → Prop} {w : World} {l : List FT} {ns : List (ByteArray × ByteArray)} {fo : Option Addr} {fc nc : Nat} {no : Option Addr} (h : MayAt S w l ns fo fc no) : Ans 38 #[.agg #[.slice fo l.length fc, .slice no ns.length nc]] true w :=
  maybe_walk fo no l.length fc ns.length nc 0 _ w h.check
theorem MayAt.print {S : Nat → Prop} {w : World} {l : List FT} {ns : List (ByteArray × ByteArray)} {fo : Option Addr} {fc nc : Nat} {no : Option Addr} (h : MayAt S w l ns fo fc no) : AnsV 13 #[.agg #[.slice fo l.length fc, .slice no ns.length nc]] (.tuple #[.string (scT l ns), .int .i64 0]) w := by
  have h3 := lists_ok h.may.lists
  obtain ⟨a, b⟩ := h.may.sizes
  have hr := h.row.cut h.may.deep
  refine print_true (ts := l.map (txF 256)) (us := ns.map ntB) (by have := h.may.fl; simp; omega) (by simp) (by simp; omega) (by omega) (by omega) h.maybe ?_ ?_
  · intro W g
    have := fieldTexts_any S 257 l fo fc w h.tab h.low hr h.may.ok.1 h.may.ok.2 W g
    rw [List.length_map]
    exact this
  · intro W g
    have := noteTexts_any no nc ns w h.notes h3.2 W g
    rw [List.length_map]
    exact this
end Go.Proofs.YtkodgneneiledaaGreatDoor.Kit
namespace Go.Proofs.YtkodgneneiledaaGreatDoor.Kit
open Go.RowKit Go.Shelf Go.Deep
set_option linter.unusedVariables false
attribute [local go_sem] run_store_func

/-! ### EqSchema 8 of the same data -/
set_option maxRecDepth 100000 in
set_option maxHeartbeats 2000000 in
theorem eqSchema8 {fo eo no mo : Option Addr} {nf fc ec nc mc : Nat} {ns : List (ByteArray × ByteArray)} {w : World} (hF : Ans 31 #[.slice fo nf fc, .slice eo nf ec] true w) (h1 : NotesAt w no ns) (h2 : NotesAt w mo ns) :
    Ans 8 #[.agg #[.slice fo nf fc, .slice no ns.length nc], .agg #[.slice eo nf ec, .slice mo ns.length mc]] true w := by
  intro W g
  have hk := h1.1
  have hbig : ns.length ≤ 1000000000000 := hk
  have H1 := hidP (h1.gr g)
  have H2 := hidP (h2.gr g)
  have HF := hidP (hF.gr g)
  obtain ⟨m, hm⟩ : ∃ m, m = ns.length := ⟨_, rfl⟩
  rw [← hm] at hbig ⊢
  have Hm := hidP hm
  clear h1 h2 hF hk hm g
  have hbx := heap_alloc_new W (.cells #[.slice fo nf fc, .slice no m nc] 27)
  have hby := heap_alloc_new (W.alloc (.cells #[.slice fo nf fc, .slice no m nc] 27)) (.cells #[.slice eo nf ec, .slice mo m mc] 27)
  have hs1 : (W.alloc (.cells #[.slice fo nf fc, .slice no m nc] 27)).heap.size = W.heap.size + 1 := by simp
  have g1 := gr_alloc W (.cells #[.slice fo nf fc, .slice no m nc] 27)
  have g2 := gr_alloc (W.alloc (.cells #[.slice fo nf fc, .slice no m nc] 27)) (.cells #[.slice eo nf ec, .slice mo m mc] 27)
  obtain ⟨V, hV⟩ : ∃ V, (W.alloc (.cells #[.slice fo nf fc, .slice no m nc] 27)).alloc (.cells #[.slice eo nf ec, .slice mo m mc] 27) = V := ⟨_, rfl⟩
  rw [hs1] at hby
  rw [hV] at hby g2
  have hbx' := (g2.block _ (lt_of_heap hbx) id).trans hbx
  obtain ⟨b, hb⟩ : ∃ b, b = W.heap.size := ⟨_, rfl⟩
  rw [← hb] at hbx' hby
  have HG : Hid (Gr W V) := g1.trans g2 fun _ _ h => h
  have HX : Hid (V.heap[b]? = some (.cells #[.slice fo nf fc, .slice no m nc] 27 (0, 0)) ∧ V.heap[b + 1]? = some (.cells #[.slice eo nf ec, .slice mo m mc] 27 (0, 0))) := ⟨hbx', hby⟩
  have HV := hidP hV
  have Hb := hidP hb
  have x0 := (cell2 hbx').1
  have x1 := (cell2 hbx').2
  have y0 := (cell2 hby).1
  have y1 := (cell2 hby).2
  have HFV := hidP (HF.out V HG.out)
  clear hbx hby hs1 g1 g2 hV hb hbx' HF
  go_enter Tryz.func8, Tryz.ntmps8
  go_wp2_with (go_at_call 31; rw [HV.out, ← Hb.out]; refine Hid.out ?_)
  unfold Hid
  refine Calls.mono HFV.out ?_
  rintro e U ⟨rfl, gU⟩
  have HXU : Hid (U.heap[b]? = some (.cells #[.slice fo nf fc, .slice no m nc] 27 (0, 0)) ∧ U.heap[b + 1]? = some (.cells #[.slice eo nf ec, .slice mo m mc] 27 (0, 0))) := ⟨(gU.block _ (lt_of_heap HX.out.1) id).trans HX.out.1, (gU.block _ (lt_of_heap HX.out.2) id).trans HX.out.2⟩
  have HGU : Hid (Gr W U) := HG.out.trans gU fun _ _ h => h
  clear gU HX HG x0 x1 y0 y1 HFV HV
  have x1 := (cell2 HXU.out.1).2
  have y1 := (cell2 HXU.out.2).2
  go_wp2_with fail
  go_loopw [24] (fun i wr => ∃ k : Nat, k ≤ m ∧ i = .int .i64 (k : Int) ∧ Hid (Gr U wr)) (fun i _ => m - (intOf i).toNat)
  case atStart => exact ⟨0, Nat.zero_le _, rfl, Keeps.refl _ _⟩
  case round =>
    clear x1 y1
    obtain ⟨k, hk, rfl, HK⟩ := hrel
    by_cases hlt : k < m
    · have hltI : (k : Int) < (m : Int) := by omega
      have hne : ns ≠ [] := fun e => by have := Hm.out; rw [e] at this; simp at this; omega
      obtain ⟨c1, o1, rfl, hc1⟩ := H1.out.2 hne
      obtain ⟨c2, o2, rfl, hc2⟩ := H2.out.2 hne
      have hk' : k < ns.length := by rw [← Hm.out]; exact hlt
      have gW : Gr W wr := HGU.out.trans HK.out fun _ _ h => h
      have p0 := gW.cell' (hc1 k hk').1 id
      have p1 := gW.cell' (hc1 k hk').2 id
      have q0 := gW.cell' (hc2 k hk').1 id
      have q1 := gW.cell' (hc2 k hk').2 id
      have hx := (HK.out.block _ (lt_of_heap HXU.out.1) id).trans HXU.out.1
      have hy := (HK.out.block _ (lt_of_heap HXU.out.2) id).trans HXU.out.2
      have x1 := (cell2 hx).2
      have y1 := (cell2 hy).2
      generalize ns[k].1 = s1 at p0 q0
      generalize ns[k].2 = s2 at p1 q1
      have hadd : IntKind.i64.wrap ((k : Int) + 1) = ((k + 1 : Nat) : Int) := by rw [IntKind.wrap_i64]; omega
      clear hc1 hc2 hk' gW hx hy hne
      go_wp2_with fail
      go_region
      go_wp2_with fail
      go_roundw
      case rel => exact ⟨k + 1, by omega, by simp, HK.out.drew⟩
      case measure => simp [intOf]; omega
    · have hkm : k = m := by omega
      subst hkm
      have hltI : ¬ (k : Int) < (k : Int) := by omega
      go_wp2_with fail
      go_ret
      exact ⟨rfl, HGU.out.trans HK.out fun _ _ h => h⟩
end Go.Proofs.YtkodgneneiledaaGreatDoor.Kit
