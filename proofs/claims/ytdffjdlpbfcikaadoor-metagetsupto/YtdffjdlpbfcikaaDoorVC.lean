import Derived.Test.YtdffjdlpbfcikaaDoorGB
import Derived.Test.YtdffjdlpbfcikaaDoorGA
import Derived.Test.YtdffjdlpbfcikaaDoorFH
import Derived.Test.YtdffjdlpbfcikaaDoorVB
namespace Go.Proofs.YtdffjdlpbfcikaaDoor.Kit
open Go.RowKit Go.Shelf Go.Deep
set_option linter.unusedVariables false
attribute [local go_sem] run_store_func

theorem AllR.pre {N L : List LS} {x : LS} (h : AllR N) (hp : L ++ [x] <+: N) : wrongE x L.length (tkL L) = 0 := by
  obtain ⟨r, rfl⟩ := hp
  have := h L.length (by simp)
  simpa using this
theorem AllR.mono {N L : List LS} (h : AllR N) (hp : L <+: N) : AllR L := by
  obtain ⟨r, rfl⟩ := hp
  intro k hk
  have := h k (by simp; omega)
  rw [List.getElem_append_left hk, List.take_append_of_le_length (by omega)] at this
  exact this
theorem first_eq {N L L' : List LS} {x x' : LS} (h : L ++ [x] <+: N) (h' : L' ++ [x'] <+: N) (a : AllR L) (a' : AllR L') (b : wrongE x L.length (tkL L) ≠ 0) (b' : wrongE x' L'.length (tkL L') ≠ 0) : L = L' ∧ x = x' := by
  have key : ∀ {L L' : List LS} {x x' : LS}, L ++ [x] <+: N → L' ++ [x'] <+: N → AllR L' → wrongE x L.length (tkL L) ≠ 0 → ¬ L.length < L'.length := fun {L L' x x'} h h' a' b hlt => by
    have h1 : L ++ [x] <+: L' := List.prefix_of_prefix_length_le h ((List.prefix_append L' [x']).trans h') (by simp; omega)
    exact b (a'.pre h1)
  have hl : L.length = L'.length := by
    have h1 := key h h' a' b
    have h2 := key h' h a b'
    omega
  have := List.prefix_of_prefix_length_le h h' (by simp [hl])
  have e := this.eq_of_length (by simp [hl])
  have := List.append_inj e hl
  exact ⟨this.1, by simpa using this.2⟩

/-- look, where nothing is wrong -/
theorem look_ok {S : Nat → Prop} {D : Nat} {fo no : Option Addr} {cf cn : Nat} {fs : List FT} {ns : List (ByteArray × ByteArray)} {w : World} (hT : Tab w) (hr : RowAt S w D fo fs) (hcf : fs.length ≤ cf) (hD : D ≤ big) (hS : ∀ b, S b → b < w.heap.size) (hn : NotesAt w no ns)
    (hE : (listsE fs.length ns).1 = 0) (hA : AllR (nodes D fs [] false)) : ∀ W, Gr w W →
    Calls Tryd.prog 52 #[.agg #[.slice fo fs.length cf, .slice no ns.length cn]] W fun e w' => ∃ vo vn vc, e = .returned (.tuple #[.agg #[.int .i64 0, .slice vo vn vc, .int .i64 0], .int .i64 ((nodes D fs [] false).length : Int)]) ∧ Gr W w' ∧ True := fun W g => by
  refine (look_walk S D fo no cf cn fs ns W (hT.gr g) (hr.kept fun b h => g.block b (hS b h) id) hcf hD (fun b h => Nat.lt_of_lt_of_le (hS b h) g.size) (hn.gr g)).mono ?_
  rintro e w' ⟨hg, h | h | h⟩
  · exact absurd hE h.1
  · exact ⟨none, 0, 0, h.2.2, hg, trivial⟩
  · obtain ⟨_, L, x, vo, vc, hp, _, hb, _⟩ := h
    exact absurd (hA.pre hp) hb
/-- look, where the first wrong one is known -/
theorem look_bad {S : Nat → Prop} {D : Nat} {fo no : Option Addr} {cf cn : Nat} {fs : List FT} {ns : List (ByteArray × ByteArray)} {w : World} (hT : Tab w) (hr : RowAt S w D fo fs) (hcf : fs.length ≤ cf) (hD : D ≤ big) (hS : ∀ b, S b → b < w.heap.size) (hn : NotesAt w no ns)
    (hE : (listsE fs.length ns).1 = 0) {L : List LS} {x : LS} (hp : L ++ [x] <+: nodes D fs [] false) (hA : AllR L) (hb : wrongE x L.length (tkL L) ≠ 0) : ∀ W, Gr w W →
    Calls Tryd.prog 52 #[.agg #[.slice fo fs.length cf, .slice no ns.length cn]] W fun e w' => ∃ vo vn vc, e = .returned (.tuple #[.agg #[.int .i64 (wrongE x L.length (tkL L)), .slice vo vn vc, .int .i64 0], .int .i64 (L.length : Int)]) ∧ Gr W w' ∧ vn = x.path.length ∧ w'.ownsRow 0 3 1 (.slice vo vn vc) vn (ints x.path) := fun W g => by
  refine (look_walk S D fo no cf cn fs ns W (hT.gr g) (hr.kept fun b h => g.block b (hS b h) id) hcf hD (fun b h => Nat.lt_of_lt_of_le (hS b h) g.size) (hn.gr g)).mono ?_
  rintro e w' ⟨hg, h | h | h⟩
  · exact absurd hE h.1
  · exact absurd (h.2.1.pre hp) hb
  · obtain ⟨_, L', x', vo, vc, hp', hA', hb', he, ho, _⟩ := h
    obtain ⟨rfl, rfl⟩ := first_eq hp hp' hA hA' hb hb'
    exact ⟨vo, _, vc, he, hg, rfl, ho⟩

set_option maxRecDepth 100000 in
set_option maxHeartbeats 2000000 in
theorem check_walk (fo no : Option Addr) (nf cf nn cn : Nat) (er k : Int) (Q : Option Addr → Nat → Nat → World → Prop) (hQ : ∀ vo vn vc A B b c, Q vo vn vc A → A.heap[b]? = some (.cells c 34) → Keeps A B (fun k => k = b) → Q vo vn vc B) (w : World)
    (hl : ∀ W, Gr w W → Calls Tryd.prog 52 #[.agg #[.slice fo nf cf, .slice no nn cn]] W fun e w' => ∃ vo vn vc, e = .returned (.tuple #[.agg #[.int .i64 er, .slice vo vn vc, .int .i64 0], .int .i64 k]) ∧ Gr W w' ∧ Q vo vn vc w') :
    ∀ W, Gr w W → Calls Tryd.prog 35 #[.agg #[.slice fo nf cf, .slice no nn cn]] W fun e w' => ∃ vo vn vc, e = .returned (.agg #[.int .i64 er, .slice vo vn vc, .int .i64 0]) ∧ Gr W w' ∧ Q vo vn vc w' := by
  intro W g
  have HL : Hid (∀ W', Gr W W' → Calls Tryd.prog 52 #[.agg #[.slice fo nf cf, .slice no nn cn]] W' fun e w' => ∃ vo vn vc, e = .returned (.tuple #[.agg #[.int .i64 er, .slice vo vn vc, .int .i64 0], .int .i64 k]) ∧ Gr W' w' ∧ Q vo vn vc w') := fun W' g' => hl W' (g.trans g' (fun _ _ h => h))
  have HQ : Hid _ := hQ
  clear hl g hQ
  have hx2 : ((W.alloc (.cells #[.slice fo nf cf, .slice no nn cn] 26)).alloc (.cells #[.int .i64 0, .slice none 0 0, .int .i64 0] 34)).heap[W.heap.size + 1]? = some (.cells #[.int .i64 0, .slice none 0 0, .int .i64 0] 34) := by
    have := World.alloc_heap_new (W.alloc (.cells #[.slice fo nf cf, .slice no nn cn] 26)) (.cells #[.int .i64 0, .slice none 0 0, .int .i64 0] 34)
    rw [World.size_alloc] at this
    exact this
  have HG0 : Hid (Gr W ((W.alloc (.cells #[.slice fo nf cf, .slice no nn cn] 26)).alloc (.cells #[.int .i64 0, .slice none 0 0, .int .i64 0] 34))) := (gr_alloc W _).alloc _
  have HX := hidM hx2
  clear hx2
  go_enter Tryd.func35, Tryd.ntmps35
  go_wp2_with (go_at_call 52; refine Hid.out ?_)
  unfold Hid
  refine Calls.mono (HL.out _ HG0.out) ?_
  rintro e W1 ⟨vo, vn, vc, rfl, hg1, hq⟩
  have hx3 := (hg1.block _ (lt_of_heap HX.out) (fun h => h)).trans HX.out
  have hx4 : (W1.alloc (.cells #[.int .i64 er, .slice vo vn vc, .int .i64 0] 34)).heap[W.heap.size + 1]? = _ := ((gr_alloc W1 _).block _ (lt_of_heap hx3) (fun h => h)).trans hx3
  obtain ⟨y0, y1, y2⟩ := cell3 hx4
  have y3 := frz hx4 0
  have y4 := frz hx4 1
  have y5 := frz hx4 2
  have e0 := setc (j := 0) hx4 (.int .i64 er)
  have e1 := setc (j := 1) e0 (.slice vo vn vc)
  have e2 := setc (j := 2) e1 (.int .i64 0)
  have k5 : Keeps (W1.alloc (.cells #[.int .i64 er, .slice vo vn vc, .int .i64 0] 34)) _ (fun b => b = W.heap.size + 1) := keep1 (j := 2) (keep1 (j := 1) (keep1 (j := 0) (Keeps.refl (W1.alloc (.cells #[.int .i64 er, .slice vo vn vc, .int .i64 0] 34)) (fun b => b = W.heap.size + 1)) (.int .i64 er)) (.slice vo vn vc)) (.int .i64 0)
  have HE := hidM (And.intro e2 (And.intro k5 (And.intro hg1 (And.intro hq hx3))))
  clear hx3 hx4 e0 e1 e2 k5 hg1 hq
  go_wp2_with fail
  obtain ⟨e2, k5, hg1, hq, hx3⟩ := HE.out
  have hk : Keeps W1 _ (fun b => b = W.heap.size + 1) := (Keeps.trans (S := fun b => b = W.heap.size + 1) ((gr_alloc W1 _).mono fun _ _ h => h.elim) k5 (fun _ _ h => h))
  have hqe := HQ.out _ _ _ _ _ _ _ hq hx3 hk
  have hge := (HG0.out.trans hg1 (fun _ _ h => h)).trans hk (fun j hj h => by omega)
  obtain ⟨v0, v1, v2⟩ := cell3 (e2.trans (by simp : _ = some (Obj.cells #[.int .i64 er, .slice vo vn vc, .int .i64 0] 34 (0, 0))))
  refine bodyPost_ret (v := .agg #[.int .i64 er, .slice vo vn vc, .int .i64 0]) ?_ rfl ⟨vo, vn, vc, rfl, hge, hqe⟩
  simp [results, Tryd.f35, go_sem, v0, v1, v2]
end Go.Proofs.YtdffjdlpbfcikaaDoor.Kit
namespace Go.Proofs.YtdffjdlpbfcikaaDoor.Kit
open Go.RowKit Go.Shelf Go.Deep

/-! ### which lists of fields are the same in all; and what that is of their fields in order -/
/-- two lists of the same length, whose fields are alike one by one -/
def sameAll {α : Type} (p : α → α → Bool) : List α → List α → Bool
  | [], [] => true
  | f :: a, g :: b => p f g && sameAll p a b
  | [], _ :: _ => false
  | _ :: _, [] => false
theorem sameAll_len {α : Type} {p : α → α → Bool} : ∀ {a b : List α}, a.length ≠ b.length → sameAll p a b = false
  | [], [], h => absurd rfl h
  | [], _ :: _, _ => rfl
  | _ :: _, [], _ => rfl
  | _ :: a, _ :: b, h => by simp [sameAll, sameAll_len (a := a) (b := b) (by simpa using h)]
theorem sameAll_true {α : Type} {p : α → α → Bool} : ∀ {a b : List α}, a.length = b.length → (∀ i (h : i < a.length) (h' : i < b.length), p a[i] b[i] = true) → sameAll p a b = true
  | [], [], _, _ => rfl
  | [], _ :: _, h, _ => by simp at h
  | _ :: _, [], h, _ => by simp at h
  | f :: a, g :: b, h, hp => by
    have h0 : p f g = true := hp 0 (by simp) (by simp)
    have h1 := sameAll_true (p := p) (a := a) (b := b) (by simpa using h) (fun i hi hi' => hp (i + 1) (by simp; omega) (by simp; omega))
    simp [sameAll, h0, h1]
theorem sameAll_false {α : Type} {p : α → α → Bool} : ∀ {a b : List α} (i : Nat) (h : i < a.length) (h' : i < b.length), p a[i] b[i] = false → sameAll p a b = false
  | [], _, _, h, _, _ => by simp at h
  | _ :: _, [], _, _, h, _ => by simp at h
  | f :: a, g :: b, 0, _, _, hp => by
    have : p f g = false := hp
    simp [sameAll, this]
  | f :: a, g :: b, i + 1, h, h', hp => by
    have h1 := sameAll_false (p := p) (a := a) (b := b) i (by simp at h; omega) (by simp at h'; omega) hp
    simp [sameAll, h1]
/-- a type's own numbers -/
def tyEq (f g : FT) : Bool := f.kind == g.kind && f.width == g.width && f.id == g.id && f.index == g.index
mutual
def sameLs : Nat → List FT → List FT → Bool
  | 0, a, b => sameAll (fun _ _ => true) a b
  | d + 1, a, b => sameAll (sameFd d) a b
def sameFd : Nat → FT → FT → Bool
  | d, f, g => sEq f.name g.name && (f.nul == g.nul) && (tyEq f g && sameLs d f.kids g.kids)
end
theorem sameLs_succ (d : Nat) (a b : List FT) : sameLs (d + 1) a b = sameAll (sameFd d) a b := by rw [sameLs]
theorem sameFd_eq (d : Nat) (f g : FT) : sameFd d f g = (sEq f.name g.name && (f.nul == g.nul) && (tyEq f g && sameLs d f.kids g.kids)) := by rw [sameFd]

/-- the fields in their order, without their ways -/
def pre : Nat → List FT → List FT
  | 0, _ => []
  | d + 1, l => l.flatMap fun f => f :: pre d f.kids
def deep : Nat → List FT → Prop
  | 0, l => l = []
  | d + 1, l => ∀ f ∈ l, deep d f.kids
theorem RowAt.deep {S : Nat → Prop} {W : World} : ∀ {d : Nat} {ao : Option Addr} {l : List FT}, RowAt S W d ao l → Kit.deep d l
  | 0, _, _, h => h
  | d + 1, _, l, h => fun f hf => by
    obtain ⟨i, hi, rfl⟩ := List.mem_iff_getElem.1 hf
    obtain ⟨b, o, _, _, hc⟩ := h.2 (fun e => by subst e; simp at hi)
    obtain ⟨ao', ca', _, _, hr⟩ := hc i hi
    exact RowAt.deep hr
def nodeEq (f g : FT) : Bool := (f.nul == g.nul) && (tyEq f g && decide (f.kids.length = g.kids.length))
def nmEq (f g : FT) : Bool := nodeEq f g && sEq f.name g.name
/-- two lists of fields in order, one by one -/
def allP (p : FT → FT → Bool) (l m : List FT) : Bool := sameAll p l m

theorem sameAll_app {α : Type} {p : α → α → Bool} : ∀ {a b ra rb : List α}, a.length = b.length → sameAll p (a ++ ra) (b ++ rb) = (sameAll p a b && sameAll p ra rb)
  | [], [], _, _, _ => by simp [sameAll]
  | [], _ :: _, _, _, h => by simp at h
  | _ :: _, [], _, _, h => by simp at h
  | f :: a, g :: b, ra, rb, h => by simp [sameAll, sameAll_app (p := p) (a := a) (b := b) (ra := ra) (rb := rb) (by simpa using h), Bool.and_assoc]

/-- the order tells the tree -/
theorem pre_same : ∀ (d : Nat) (a b ra rb : List FT), deep d a → deep d b → a.length = b.length → sameAll nmEq (pre d a ++ ra) (pre d b ++ rb) = (sameLs d a b && sameAll nmEq ra rb)
  | 0, a, b, ra, rb, ha, hb, _ => by
    have ha' : a = [] := ha
    have hb' : b = [] := hb
    subst ha' hb'
    simp [pre, sameLs, sameAll]
  | d + 1, a, b, ra, rb, ha, hb, hl => by
    rw [sameLs_succ]
    induction a generalizing b with
    | nil =>
      cases b with
      | nil => simp [pre, sameAll]
      | cons g b => simp at hl
    | cons f a ih =>
      cases b with
      | nil => simp at hl
      | cons g b =>
        have e1 : pre (d + 1) (f :: a) ++ ra = f :: (pre d f.kids ++ (pre (d + 1) a ++ ra)) := by simp [pre]
        have e2 : pre (d + 1) (g :: b) ++ rb = g :: (pre d g.kids ++ (pre (d + 1) b ++ rb)) := by simp [pre]
        rw [e1, e2, sameAll, sameAll]
        by_cases hk : f.kids.length = g.kids.length
        · rw [pre_same d f.kids g.kids _ _ (ha f (by simp)) (hb g (by simp)) hk, ih b (fun x hx => ha x (by simp [hx])) (fun x hx => hb x (by simp [hx])) (by simpa using hl)]
          rw [sameFd_eq, nmEq, nodeEq]
          simp only [hk, decide_true, Bool.and_true]
          cases f.nul == g.nul <;> cases tyEq f g <;> cases sEq f.name g.name <;> cases sameLs d f.kids g.kids <;> simp
        · have h1 : nmEq f g = false := by simp [nmEq, nodeEq, hk]
          have h2 : sameLs d f.kids g.kids = false := by
            cases d with
            | zero => rw [sameLs]; exact sameAll_len hk
            | succ d => rw [sameLs_succ]; exact sameAll_len hk
          rw [sameFd_eq, h1, h2]
          simp
/-- of nodes -/
theorem nodes_pre : ∀ (d : Nat) (l : List FT) (path : List Nat) (inD : Bool), (nodes d l path inD).map LS.fld = pre d l
  | 0, _, _, _ => rfl
  | d + 1, l, path, inD => by
    have key : ∀ n, n ≤ l.length → (upto d l path inD n).map LS.fld = (l.take n).flatMap fun f => f :: pre d f.kids := by
      intro n
      induction n with
      | zero => intro _; simp [upto_zero]
      | succ n ih =>
        intro hn
        have hx : LS.fld ⟨l, path ++ [n], inD⟩ = l[n] := by
          have hi : LS.idx ⟨l, path ++ [n], inD⟩ = n := by simp [LS.idx]
          unfold LS.fld
          rw [hi]
          simp [List.getElem?_eq_getElem (show n < l.length by omega)]
        have hb : l[n]! = l[n] := getElem!_pos l n (by omega)
        rw [upto_succ, List.map_append, ih (by omega), List.map_cons, nodes_pre d, hx, hb, List.take_succ_eq_append_getElem (by omega), List.flatMap_append]
        simp
    have := key l.length (Nat.le_refl _)
    rw [nodes_succ, this, List.take_length]
    rfl
theorem sameAll_map {α β : Type} {p : β → β → Bool} (h : α → β) : ∀ (a b : List α), sameAll p (a.map h) (b.map h) = sameAll (fun x y => p (h x) (h y)) a b
  | [], [] => rfl
  | [], _ :: _ => rfl
  | _ :: _, [] => rfl
  | f :: a, g :: b => by simp [sameAll, sameAll_map h a b]
/-- as the document holds two nodes against each other -/
def ndEq (nm : Bool) (x y : LS) : Bool := nodeEq x.fld y.fld && (!(nm || decide (1 < x.path.length)) || sEq x.fld.name y.fld.name)
theorem ndEq_true (x y : LS) : ndEq true x y = nmEq x.fld y.fld := by simp [ndEq, nmEq]
def alikeB (nm : Bool) (la lb : Nat) (N M : List LS) : Bool := decide (la = lb) && sameAll (ndEq nm) N M
/-- of schemas: the tree's own answer -/
theorem alikeB_true {d : Nat} {a b : List FT} (ha : deep d a) (hb : deep d b) : alikeB true a.length b.length (nodes d a [] false) (nodes d b [] false) = sameLs d a b := by
  have e : sameAll (ndEq true) (nodes d a [] false) (nodes d b [] false) = sameAll nmEq (pre d a) (pre d b) := by
    rw [← nodes_pre d a [] false, ← nodes_pre d b [] false, sameAll_map]
    rw [show ndEq true = fun x y => nmEq x.fld y.fld from funext fun x => funext fun y => ndEq_true x y]
  unfold alikeB
  rw [e]
  by_cases hl : a.length = b.length
  · have := pre_same d a b [] [] ha hb hl
    simp only [List.append_nil] at this
    rw [this]
    simp [hl, sameAll]
  · have h2 : sameLs d a b = false := by
      cases d with
      | zero => rw [sameLs]; exact sameAll_len hl
      | succ d => rw [sameLs_succ]; exact sameAll_len hl
    simp [hl, h2]
end Go.Proofs.YtdffjdlpbfcikaaDoor.Kit
namespace Go.Proofs.YtdffjdlpbfcikaaDoor.Kit
open Go.RowKit Go.Shelf Go.Deep
set_option linter.unusedVariables false
attribute [local go_sem] run_store_func

def Ans (F : Nat) (args : Array Value) (b : Bool) (w : World) : Prop := ∀ W, Gr w W → Calls Tryd.prog F args W fun e w' => e = .returned (.bool b) ∧ Gr W w'
theorem Ans.gr {F : Nat} {args : Array Value} {b : Bool} {w W : World} (h : Ans F args b w) (g : Gr w W) : Ans F args b W := fun W' g' => h W' (g.trans g' (fun _ _ h => h))

theorem beqZ {a b : Int} (h : ¬ a = b) : (a == b) = false := by simp [h]
def fldA (f : FT) (ao : Option Addr) (ca : Nat) : Value := .agg #[.string f.name, .bool f.nul, .int .i64 f.kind, .int .i64 f.width, .int .i64 f.id, .int .i64 f.index, .slice ao f.kids.length ca]

end Go.Proofs.YtdffjdlpbfcikaaDoor.Kit
namespace Go.Proofs.YtdffjdlpbfcikaaDoor.Kit
open Go.RowKit Go.Shelf Go.Deep
set_option linter.unusedVariables false
attribute [local go_sem] run_store_func

def okM (f : FT) : Prop := f.name.size ≤ 48 ∧ tableB f = true
theorem ce5 {W : World} {B t : Nat} {x0 x1 x2 x3 x4 : Value} (h : W.heap[B]? = some (.cells #[x0, x1, x2, x3, x4] t)) : W.cell? ⟨B, 0, none⟩ = some x0 ∧ W.cell? ⟨B, 1, none⟩ = some x1 ∧ W.cell? ⟨B, 2, none⟩ = some x2 ∧ W.cell? ⟨B, 3, none⟩ = some x3 ∧ W.cell? ⟨B, 4, none⟩ = some x4 := by simp [World.cell?, h]
theorem ce7 {W : World} {B t : Nat} {x0 x1 x2 x3 x4 x5 x6 : Value} (h : W.heap[B]? = some (.cells #[x0, x1, x2, x3, x4, x5, x6] t)) : W.cell? ⟨B, 0, none⟩ = some x0 ∧ W.cell? ⟨B, 1, none⟩ = some x1 ∧ W.cell? ⟨B, 2, none⟩ = some x2 ∧ W.cell? ⟨B, 3, none⟩ = some x3 ∧ W.cell? ⟨B, 4, none⟩ = some x4 ∧ W.cell? ⟨B, 5, none⟩ = some x5 ∧ W.cell? ⟨B, 6, none⟩ = some x6 := by simp [World.cell?, h]
theorem tableB_nums {f : FT} (h : tableB f = true) : 0 < f.kind ∧ f.kind < 21 ∧ (f.kind = 14 ∨ f.kind = 16 → 0 ≤ f.width ∧ f.width < 100) ∧ (f.kind = 19 → 0 ≤ f.id ∧ f.id < 32 ∧ 3 ≤ f.index ∧ f.index ≤ 10) ∧ f.kids.length ≤ 32 := by
  unfold tableB kindB widthB dictB indexB at h
  simp only [Bool.and_eq_true, decide_eq_true_eq] at h
  obtain ⟨⟨h1, h2⟩, ⟨⟨h3, h4⟩, h5⟩, h6⟩ := h
  refine ⟨h1, h2, ?_, ?_, ?_⟩
  · rintro (e | e) <;> simp [e] at h5 <;> omega
  · intro e
    simp [e] at h6
    omega
  · have : ∀ k : Nat, mostK k ≤ 32 := fun k => by unfold mostK; split <;> omega
    have := this f.kind.toNat
    omega
end Go.Proofs.YtdffjdlpbfcikaaDoor.Kit
