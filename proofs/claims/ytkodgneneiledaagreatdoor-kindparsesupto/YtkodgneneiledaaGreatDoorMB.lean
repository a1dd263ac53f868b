import Derived.Test.YtkodgneneiledaaGreatDoorLK
import Derived.Test.YtkodgneneiledaaGreatDoorGA
set_option maxRecDepth 100000
set_option maxHeartbeats 4000000
namespace Go.Proofs.YtkodgneneiledaaGreatDoor.Kit
open Go.RowKit Go.Shelf Go.Deep
set_option linter.unusedVariables false
attribute [local go_sem] run_store_func
theorem cell7 {W : World} {B t : Nat} {x0 x1 x2 x3 x4 x5 x6 : Value} (h : W.heap[B]? = some (.cells #[x0, x1, x2, x3, x4, x5, x6] t)) : W.cell? ⟨B, 0, none⟩ = some x0 ∧ W.cell? ⟨B, 0 + 1, none⟩ = some x1 ∧ W.cell? ⟨B, 0 + 2, none⟩ = some x2 ∧ W.cell? ⟨B, 0 + 3, none⟩ = some x3 ∧ W.cell? ⟨B, 0 + 4, none⟩ = some x4 ∧ W.cell? ⟨B, 0 + 5, none⟩ = some x5 ∧ W.cell? ⟨B, 0 + 6, none⟩ = some x6 := by simp [World.cell?, h]
theorem alone_any (f0 : ByteArray) (f1 : Bool) (f2 f3 f4 f5 : Int) (ao : Option Addr) (f6 ca : Nat) (w : World) :
    Calls Tryz.prog 33 #[.agg #[.string f0, .bool f1, .int .i64 f2, .int .i64 f3, .int .i64 f4, .int .i64 f5, .slice ao f6 ca]] w fun e w' => ∃ g, e = .returned (.agg #[.slice (some ⟨g, 0, none⟩) 1 1, .slice none 0 0]) ∧ Gr w w' ∧ w.heap.size ≤ g ∧ w'.heap[g]? = some (.cells #[.string f0, .bool f1, .int .i64 f2, .int .i64 f3, .int .i64 f4, .int .i64 f5, .slice ao f6 ca] 37) := by
  go_enter Tryz.func33, Tryz.ntmps33
  go_wp2
  obtain ⟨A, hA⟩ : ∃ A, A = w.alloc (.cells #[.string f0, .bool f1, .int .i64 f2, .int .i64 f3, .int .i64 f4, .int .i64 f5, .slice ao f6 ca] 37) := ⟨_, rfl⟩
  have hsA : A.heap.size = w.heap.size + 1 := by rw [hA]; simp
  rw [← hA]
  have x1 : ((A.alloc (.cells #[.slice (some ⟨w.heap.size + 1 + 1, 0, none⟩) 1 1, .slice none 0 0] 27)).alloc (.cells #[.string f0, .bool f1, .int .i64 f2, .int .i64 f3, .int .i64 f4, .int .i64 f5, .slice ao f6 ca] 37)).heap[w.heap.size + 1]? = some (.cells #[.slice (some ⟨w.heap.size + 1 + 1, 0, none⟩) 1 1, .slice none 0 0] 27) := by
    have := World.alloc_heap_new A (.cells #[.slice (some ⟨w.heap.size + 1 + 1, 0, none⟩) 1 1, .slice none 0 0] 27)
    rw [hsA] at this
    exact (Below.heap_alloc _ _ _ (by simp [hsA])).trans this
  have x2 : ((A.alloc (.cells #[.slice (some ⟨w.heap.size + 1 + 1, 0, none⟩) 1 1, .slice none 0 0] 27)).alloc (.cells #[.string f0, .bool f1, .int .i64 f2, .int .i64 f3, .int .i64 f4, .int .i64 f5, .slice ao f6 ca] 37)).heap[w.heap.size + 1 + 1]? = some (.cells #[.string f0, .bool f1, .int .i64 f2, .int .i64 f3, .int .i64 f4, .int .i64 f5, .slice ao f6 ca] 37) := by
    have := World.alloc_heap_new (A.alloc (.cells #[.slice (some ⟨w.heap.size + 1 + 1, 0, none⟩) 1 1, .slice none 0 0] 27)) (.cells #[.string f0, .bool f1, .int .i64 f2, .int .i64 f3, .int .i64 f4, .int .i64 f5, .slice ao f6 ca] 37)
    rw [World.size_alloc, hsA] at this
    exact this
  have hg : Gr w ((A.alloc (.cells #[.slice (some ⟨w.heap.size + 1 + 1, 0, none⟩) 1 1, .slice none 0 0] 27)).alloc (.cells #[.string f0, .bool f1, .int .i64 f2, .int .i64 f3, .int .i64 f4, .int .i64 f5, .slice ao f6 ca] 37)) := by rw [hA]; exact ((gr_alloc w _).alloc _).alloc _
  generalize ((A.alloc (.cells #[.slice (some ⟨w.heap.size + 1 + 1, 0, none⟩) 1 1, .slice none 0 0] 27)).alloc (.cells #[.string f0, .bool f1, .int .i64 f2, .int .i64 f3, .int .i64 f4, .int .i64 f5, .slice ao f6 ca] 37)) = W5 at *
  have v0 : W5.cell? ⟨w.heap.size + 1, 0, none⟩ = some (.slice (some ⟨w.heap.size + 1 + 1, 0, none⟩) 1 1) := by simp [World.cell?, x1]
  have v1 : W5.cell? ⟨w.heap.size + 1, 1, none⟩ = some (.slice none 0 0) := by simp [World.cell?, x1]
  refine bodyPost_ret (v := .agg #[.slice (some ⟨w.heap.size + 1 + 1, 0, none⟩) 1 1, .slice none 0 0]) ?_ rfl ⟨_, rfl, hg, by omega, x2⟩
  simp [results, Tryz.f33, go_sem, v0, v1]
theorem one_any (s : ByteArray) (w : World) :
    Calls Tryz.prog 17 #[.string s] w fun e w' => e = .returned (.agg #[.string s, .bool false, .int .i64 6, .int .i64 0, .int .i64 0, .int .i64 0, .slice none 0 0]) ∧ Gr w w' := by
  go_enter Tryz.func17, Tryz.ntmps17
  go_wp2
  have x2 := World.alloc_heap_new w (.cells #[.string s, .bool false, .int .i64 6, .int .i64 0, .int .i64 0, .int .i64 0, .slice none 0 0] 37)
  have hg := gr_alloc w (.cells #[.string s, .bool false, .int .i64 6, .int .i64 0, .int .i64 0, .int .i64 0, .slice none 0 0] 37)
  generalize w.alloc (.cells #[.string s, .bool false, .int .i64 6, .int .i64 0, .int .i64 0, .int .i64 0, .slice none 0 0] 37) = W5 at *
  obtain ⟨v0, v1, v2, v3, v4, v5, v6⟩ := cell7 x2
  refine bodyPost_ret (v := .agg #[.string s, .bool false, .int .i64 6, .int .i64 0, .int .i64 0, .int .i64 0, .slice none 0 0]) ?_ rfl ⟨rfl, hg⟩
  simp [results, Tryz.f17, go_sem, v0, v1, v2, v3, v4, v5, v6]
theorem row_alone {S : Nat → Prop} {W : World} {d g : Nat} {f : FT} {ao : Option Addr} {ca : Nat} (hg : W.heap[g]? = some (.cells #[.string f.name, .bool f.nul, .int .i64 f.kind, .int .i64 f.width, .int .i64 f.id, .int .i64 f.index, .slice ao f.kids.length ca] 37)) (hr : RowAt S W d ao f.kids) (hca : f.kids.length ≤ ca) :
    RowAt (fun b => S b ∨ b = g) W (d + 1) (some ⟨g, 0, none⟩) [f] := by
  refine ⟨by simp [big], fun _ => ⟨g, 0, rfl, .inr rfl, fun i hi => ?_⟩⟩
  obtain rfl : i = 0 := by simp at hi; omega
  obtain ⟨v0, v1, v2, v3, v4, v5, v6⟩ := cell7 hg
  exact ⟨ao, ca, ⟨v0, v1, v2, v3, v4, v5, v6⟩, hca, hr.mono fun b h => .inl h⟩
theorem fieldMayBe_ok (S : Nat → Prop) (d : Nat) (f : FT) (ao : Option Addr) (ca : Nat) (w : World) (hT : Tab w) (hr : RowAt S w d ao f.kids) (hca : f.kids.length ≤ ca) (hd : d + 1 ≤ big) (hS : ∀ b, S b → b < w.heap.size) (hA : AllR (nodes (d + 1) [f] [] false)) :
    ∀ W, Gr w W → Calls Tryz.prog 44 #[.agg #[.string f.name, .bool f.nul, .int .i64 f.kind, .int .i64 f.width, .int .i64 f.id, .int .i64 f.index, .slice ao f.kids.length ca]] W fun e w' => e = .returned (.bool true) ∧ Gr W w' := by
  intro W g
  have HM : Hid (∀ (W1 : World) (b : Nat), Gr W W1 → W.heap.size ≤ b → W1.heap[b]? = some (.cells #[.string f.name, .bool f.nul, .int .i64 f.kind, .int .i64 f.width, .int .i64 f.id, .int .i64 f.index, .slice ao f.kids.length ca] 37) → Calls Tryz.prog 38 #[.agg #[.slice (some ⟨b, 0, none⟩) 1 1, .slice none 0 0]] W1 fun e w' => e = .returned (.bool true) ∧ Gr W1 w') := by
    intro W1 b g1 hb hx
    have g' : Gr w W1 := g.trans g1 (fun _ _ h => h)
    have hrow := row_alone hx (hr.kept fun b h => g'.block b (hS b h) id) hca
    have hl := look_ok (w := W1) (fo := some ⟨b, 0, none⟩) (no := none) (cf := 1) (cn := 0) (fs := [f]) (ns := []) (hT.gr g') hrow (by simp) hd (fun c h => h.elim (fun h => Nat.lt_of_lt_of_le (hS c h) g'.size) fun h => by rw [h]; exact lt_of_heap hx) ⟨by simp [big], fun h => absurd rfl h⟩ (by simp [listsE]) hA
    exact maybe_walk _ _ _ _ _ _ 0 _ W1 (check_walk _ _ _ _ _ _ 0 _ (fun _ _ _ _ => True) (fun _ _ _ _ _ _ _ _ _ _ => trivial) W1 hl) W1 (Keeps.refl _ _)
  have hal := alone_any f.name f.nul f.kind f.width f.id f.index ao f.kids.length ca (W.alloc (.cells #[.string f.name, .bool f.nul, .int .i64 f.kind, .int .i64 f.width, .int .i64 f.id, .int .i64 f.index, .slice ao f.kids.length ca] 37))
  have HA := hidM hal
  clear hal hr hca hA g
  generalize f.name = f0 at *
  generalize f.nul = f1 at *
  generalize f.kind = f2 at *
  generalize f.width = f3 at *
  generalize f.id = f4 at *
  generalize f.index = f5 at *
  generalize f.kids.length = f6 at *
  go_enter Tryz.func44, Tryz.ntmps44
  go_wp2_with (go_at_call 33; refine Hid.out ?_)
  unfold Hid
  refine Calls.mono HA.out ?_
  rintro e W1 ⟨b, rfl, hg1, hb, hx⟩
  have HC := hidM (HM.out W1 b ((gr_alloc W _).trans hg1 (fun _ _ h => h)) (by simp at hb; omega) hx)
  have HG := hidM ((gr_alloc W _).trans hg1 (fun _ _ h => h))
  clear hg1 hb hx HM HA
  go_wp2_with (go_at_call 38; refine Hid.out ?_)
  unfold Hid
  refine Calls.mono HC.out ?_
  rintro e W2 ⟨rfl, hg2⟩
  have HE := hidM (HG.out.trans hg2 (fun _ _ h => h))
  clear hg2
  go_wp2_with fail
  go_ret
  exact ⟨rfl, HE.out⟩
theorem equalFunc_nil (ao bo : Option Addr) (ca cb : Nat) (fv : Value) (w : World) :
    Calls Tryz.prog 42 #[.slice ao 0 ca, .slice bo 0 cb, fv] w fun e w' => e = .returned (.bool true) ∧ w' = w := by
  go_enter Tryz.func42, Tryz.ntmps42
  go_wp2
  go_loopw [17] (fun i wr => i = .int .i64 0 ∧ wr = w) (fun _ _ => 0)
  case atStart => exact ⟨rfl, rfl⟩
  case round =>
    obtain ⟨rfl, rfl⟩ := hrel
    go_wp2
    go_ret
    exact ⟨rfl, rfl⟩
theorem sameTypes_nil (k d i x : Int) (ao bo : Option Addr) (ca cb : Nat) (w : World) :
    Calls Tryz.prog 47 #[.agg #[.int .i64 k, .int .i64 d, .int .i64 i, .int .i64 x, .slice ao 0 ca], .agg #[.int .i64 k, .int .i64 d, .int .i64 i, .int .i64 x, .slice bo 0 cb]] w fun e w' => e = .returned (.bool true) ∧ Gr w w' := by
  go_enter Tryz.func47, Tryz.ntmps47
  have hq := fun fv w => equalFunc_nil ao bo ca cb fv w
  go_wp2_with (go_at_call 42; refine (hq _ _).mono ?_; rintro e w' ⟨rfl, rfl⟩)
  go_ret
  exact ⟨rfl, (gr_alloc w _).alloc _⟩
theorem alikeFields_walk (f0 g0 : ByteArray) (f1 : Bool) (k d i x : Int) (ao bo : Option Addr) (ca cb : Nat) (w : World)
    (hf : ∀ W, Gr w W → Calls Tryz.prog 44 #[.agg #[.string f0, .bool f1, .int .i64 k, .int .i64 d, .int .i64 i, .int .i64 x, .slice ao 0 ca]] W fun e w' => e = .returned (.bool true) ∧ Gr W w')
    (hg : ∀ W, Gr w W → Calls Tryz.prog 44 #[.agg #[.string g0, .bool f1, .int .i64 k, .int .i64 d, .int .i64 i, .int .i64 x, .slice bo 0 cb]] W fun e w' => e = .returned (.bool true) ∧ Gr W w') :
    ∀ W, Gr w W → Calls Tryz.prog 20 #[.agg #[.string f0, .bool f1, .int .i64 k, .int .i64 d, .int .i64 i, .int .i64 x, .slice ao 0 ca], .agg #[.string g0, .bool f1, .int .i64 k, .int .i64 d, .int .i64 i, .int .i64 x, .slice bo 0 cb]] W fun e w' => e = .returned (.bool true) ∧ Gr W w' := by
  intro W g
  obtain ⟨W0, hW0⟩ : ∃ W0, (W.alloc (.cells #[.string f0, .bool f1, .int .i64 k, .int .i64 d, .int .i64 i, .int .i64 x, .slice ao 0 ca] 37)).alloc (.cells #[.string g0, .bool f1, .int .i64 k, .int .i64 d, .int .i64 i, .int .i64 x, .slice bo 0 cb] 37) = W0 := ⟨_, rfl⟩
  have hg0 : Gr W W0 := by rw [← hW0]; exact (gr_alloc W _).alloc _
  have x1 : W0.heap[W.heap.size]? = some (.cells #[.string f0, .bool f1, .int .i64 k, .int .i64 d, .int .i64 i, .int .i64 x, .slice ao 0 ca] 37) := by
    rw [← hW0]; exact (Below.heap_alloc _ _ _ (by simp)).trans (World.alloc_heap_new W _)
  have x2 : W0.heap[W.heap.size + 1]? = some (.cells #[.string g0, .bool f1, .int .i64 k, .int .i64 d, .int .i64 i, .int .i64 x, .slice bo 0 cb] 37) := by
    rw [← hW0]
    have := World.alloc_heap_new (W.alloc (.cells #[.string f0, .bool f1, .int .i64 k, .int .i64 d, .int .i64 i, .int .i64 x, .slice ao 0 ca] 37)) (.cells #[.string g0, .bool f1, .int .i64 k, .int .i64 d, .int .i64 i, .int .i64 x, .slice bo 0 cb] 37)
    rw [World.size_alloc] at this
    exact this
  have HF : Hid (∀ W', Gr W W' → Calls Tryz.prog 44 #[.agg #[.string f0, .bool f1, .int .i64 k, .int .i64 d, .int .i64 i, .int .i64 x, .slice ao 0 ca]] W' fun e w' => e = .returned (.bool true) ∧ Gr W' w') := fun W' g' => hf W' (g.trans g' (fun _ _ h => h))
  have HG : Hid (∀ W', Gr W W' → Calls Tryz.prog 44 #[.agg #[.string g0, .bool f1, .int .i64 k, .int .i64 d, .int .i64 i, .int .i64 x, .slice bo 0 cb]] W' fun e w' => e = .returned (.bool true) ∧ Gr W' w') := fun W' g' => hg W' (g.trans g' (fun _ _ h => h))
  obtain ⟨a0, a1, a2, a3, a4, a5, a6⟩ := cell7 x1
  obtain ⟨b0, b1, b2, b3, b4, b5, b6⟩ := cell7 x2
  have HX := hidM (And.intro x1 (And.intro x2 hg0))
  clear hf hg g x1 x2 hg0
  simp only [Nat.zero_add] at a1 a2 a3 a4 a5 a6 b1 b2 b3 b4 b5 b6
  go_enter Tryz.func20, Tryz.ntmps20
  go_wp2_with (go_at_call 44; refine Hid.out ?_)
  unfold Hid
  refine Calls.mono (HF.out _ HX.out.2.2) ?_
  rintro e W1 ⟨rfl, hg1⟩
  clear a0 a1 a2 a3 a4 a5 a6 b0 b1 b2 b3 b4 b5 b6 hW0
  have x1 := (hg1.block _ (lt_of_heap HX.out.1) (fun h => h)).trans HX.out.1
  have x2 := (hg1.block _ (lt_of_heap HX.out.2.1) (fun h => h)).trans HX.out.2.1
  replace HX := hidM (And.intro x1 (And.intro x2 (HX.out.2.2.trans hg1 (fun _ _ h => h))))
  obtain ⟨b0, b1, b2, b3, b4, b5, b6⟩ := cell7 x2
  simp only [Nat.zero_add] at b1 b2 b3 b4 b5 b6
  clear x1 x2 hg1
  go_wp2_with (go_at_call 44; refine Hid.out ?_)
  unfold Hid
  refine Calls.mono (HG.out _ HX.out.2.2) ?_
  rintro e W2 ⟨rfl, hg1⟩
  clear b0 b1 b2 b3 b4 b5 b6
  have x1 := (hg1.block _ (lt_of_heap HX.out.1) (fun h => h)).trans HX.out.1
  have x2 := (hg1.block _ (lt_of_heap HX.out.2.1) (fun h => h)).trans HX.out.2.1
  replace HX := hidM (And.intro x1 (And.intro x2 (HX.out.2.2.trans hg1 (fun _ _ h => h))))
  obtain ⟨a0, a1, a2, a3, a4, a5, a6⟩ := cell7 x1
  obtain ⟨b0, b1, b2, b3, b4, b5, b6⟩ := cell7 x2
  simp only [Nat.zero_add] at a1 a2 a3 a4 a5 a6 b1 b2 b3 b4 b5 b6
  clear x1 x2 hg1
  go_wp2_with (go_at_call 47; refine Hid.out ?_)
  unfold Hid
  refine Calls.mono (sameTypes_nil k d i x ao bo ca cb W2) ?_
  rintro e W3 ⟨rfl, hg3⟩
  have HE := hidM (HX.out.2.2.trans hg3 (fun _ _ h => h))
  clear hg3
  go_wp2_with fail
  go_ret
  exact ⟨rfl, HE.out⟩
end Go.Proofs.YtkodgneneiledaaGreatDoor.Kit
namespace Go.Proofs.YtkodgneneiledaaGreatDoor.Kit
open Go.RowKit Go.Shelf Go.Deep
def sameAll {α : Type} (p : α → α → Bool) : List α → List α → Bool
  | [], [] => true
  | f :: a, g :: b => p f g && sameAll p a b
  | [], _ :: _ => false
  | _ :: _, [] => false
theorem sameAll_len {α : Type} {p : α → α → Bool} : ∀ {a b : List α}, a.length ≠ b.length → sameAll p a b = false
  | [], [], h => absurd rfl h
  | [], _ :: _, _ => rfl
  | _ :: _, [], _ => rfl
  | _ :: a, _ :: b, h => by simp [sameAll, sameAll_len (a := a) (b := b) (by simpa using h)]
theorem sameAll_true {α : Type} {p : α → α → Bool} : ∀ {a b : List α}, a.length = b.length → (∀ i (h : i < a.length) (h' : i < b.length), p a[i] b[i] = true) → sameAll p a b = true
  | [], [], _, _ => rfl
  | [], _ :: _, h, _ => by simp at h
  | _ :: _, [], h, _ => by simp at h
  | f :: a, g :: b, h, hp => by
    have h0 : p f g = true := hp 0 (by simp) (by simp)
    have h1 := sameAll_true (p := p) (a := a) (b := b) (by simpa using h) (fun i hi hi' => hp (i + 1) (by simp; omega) (by simp; omega))
    simp [sameAll, h0, h1]
theorem sameAll_false {α : Type} {p : α → α → Bool} : ∀ {a b : List α} (i : Nat) (h : i < a.length) (h' : i < b.length), p a[i] b[i] = false → sameAll p a b = false
  | [], _, _, h, _, _ => by simp at h
  | _ :: _, [], _, _, h, _ => by simp at h
  | f :: a, g :: b, 0, _, _, hp => by
    have : p f g = false := hp
    simp [sameAll, this]
  | f :: a, g :: b, i + 1, h, h', hp => by
    have h1 := sameAll_false (p := p) (a := a) (b := b) i (by simp at h; omega) (by simp at h'; omega) hp
    simp [sameAll, h1]
def tyEq (f g : FT) : Bool := f.kind == g.kind && f.width == g.width && f.id == g.id && f.index == g.index
mutual
def sameLs : Nat → List FT → List FT → Bool
  | 0, a, b => sameAll (fun _ _ => true) a b
  | d + 1, a, b => sameAll (sameFd d) a b
def sameFd : Nat → FT → FT → Bool
  | d, f, g => sEq f.name g.name && (f.nul == g.nul) && (tyEq f g && sameLs d f.kids g.kids)
end
theorem sameLs_succ (d : Nat) (a b : List FT) : sameLs (d + 1) a b = sameAll (sameFd d) a b := by rw [sameLs]
theorem sameFd_eq (d : Nat) (f g : FT) : sameFd d f g = (sEq f.name g.name && (f.nul == g.nul) && (tyEq f g && sameLs d f.kids g.kids)) := by rw [sameFd]
def pre : Nat → List FT → List FT
  | 0, _ => []
  | d + 1, l => l.flatMap fun f => f :: pre d f.kids
def deep : Nat → List FT → Prop
  | 0, l => l = []
  | d + 1, l => ∀ f ∈ l, deep d f.kids
theorem nodes_pre : ∀ (d : Nat) (l : List FT) (path : List Nat) (inD : Bool), (nodes d l path inD).map LS.fld = pre d l
  | 0, _, _, _ => rfl
  | d + 1, l, path, inD => by
    have key : ∀ n, n ≤ l.length → (upto d l path inD n).map LS.fld = (l.take n).flatMap fun f => f :: pre d f.kids := by
      intro n
      induction n with
      | zero => intro _; simp [upto_zero]
      | succ n ih =>
        intro hn
        have hx : LS.fld ⟨l, path ++ [n], inD⟩ = l[n] := by
          have hi : LS.idx ⟨l, path ++ [n], inD⟩ = n := by simp [LS.idx]
          unfold LS.fld
          rw [hi]
          simp [List.getElem?_eq_getElem (show n < l.length by omega)]
        have hb : l[n]! = l[n] := getElem!_pos l n (by omega)
        rw [upto_succ, List.map_append, ih (by omega), List.map_cons, nodes_pre d, hx, hb, List.take_succ_eq_append_getElem (by omega), List.flatMap_append]
        simp
    have := key l.length (Nat.le_refl _)
    rw [nodes_succ, this, List.take_length]
    rfl
end Go.Proofs.YtkodgneneiledaaGreatDoor.Kit
namespace Go.Proofs.YtkodgneneiledaaGreatDoor.Kit
open Go.RowKit Go.Shelf Go.Deep
set_option linter.unusedVariables false
attribute [local go_sem] run_store_func
def Ans (F : Nat) (args : Array Value) (b : Bool) (w : World) : Prop := ∀ W, Gr w W → Calls Tryz.prog F args W fun e w' => e = .returned (.bool b) ∧ Gr W w'
theorem Ans.gr {F : Nat} {args : Array Value} {b : Bool} {w W : World} (h : Ans F args b w) (g : Gr w W) : Ans F args b W := fun W' g' => h W' (g.trans g' (fun _ _ h => h))
theorem beqZ {a b : Int} (h : ¬ a = b) : (a == b) = false := by simp [h]
end Go.Proofs.YtkodgneneiledaaGreatDoor.Kit
