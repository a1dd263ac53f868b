import Derived.Test.YtcfdkadhclickaaDoorEB
namespace Go.Proofs.YtcfdkadhclickaaDoor.Kit
open Go.RowKit Go.Shelf Go.Deep
set_option linter.unusedVariables false
attribute [local go_sem] Oper.semAt_some run_store_func

theorem yieldAny {m m' : Nat} {P : Program} {l : Nat} {args : Array Value} {W : World} {R : Ending → World → Prop} (h : YieldAt Fence.wide m P l args W R) : YieldAt Fence.wide m' P l args W R := by
  obtain ⟨fn, tmps, assign, body, hy, hR⟩ := h
  exact ⟨fn, tmps, assign, body, hy, hR.1, fun c cs _ => hR.2 c cs fun d hd => by cases hd⟩

set_option maxRecDepth 100000 in
set_option maxHeartbeats 2000000 in
theorem each1_seq (n B : Nat) (S : Nat → Prop) (D : Nat) (ao : Option Addr) (ca : Nat) (list : List FT) (w : World) (hB : w.cell? ⟨B, 0, none⟩ = some (.slice ao list.length ca)) (hr : RowAt S w D ao list) (hca : list.length ≤ ca) (hD : D ≤ big) (hS : ∀ b, S b → b < w.heap.size) :
    SeqOwn n Tryd.prog 114 #[.pointer (some ⟨B, 0, none⟩)] encS (fun O _ x W => AtS S O x W) S (fun xs => xs.map Spot.ls = nodes D list [] false) (fun pre => pre ≠ [] ∧ pre.map Spot.ls <+: nodes D list [] false) w := by
  intro l J Jx W hW hJ hJx hY h0
  have hlB : W.cell? ⟨B, 0, none⟩ = some (.slice ao list.length ca) := hW.cell' hB id
  have hBl : B < W.heap.size := block_lt_of_cell hlB
  have hSl : ∀ b, S b → b < W.heap.size := fun b h => Nat.lt_of_lt_of_le (hS b h) hW.size
  have hrW : RowAt S W D ao list := hr.kept fun b h => hW.block b (hS b h) id
  have hdown := down_in (bw := W.heap.size + 1) (by_ := W.heap.size) (bd := W.heap.size + 2) hJ hJx (fun m O pre x W1 h1 h2 => yieldAny (m' := m) (hY O pre x W1 h1 h2)) D
  obtain ⟨W2, hW2⟩ : ∃ W2, (((W.alloc (.cells #[.func (.yield l) #[] #[]] 160)).alloc (.cells #[.slice none 0 0] 64)).alloc (.cells #[.nilFunc] 161)).setCell ⟨W.heap.size + 2, 0, none⟩ (.func (.func 115) #[] #[.pointer (some ⟨W.heap.size + 1, 0, none⟩), .pointer (some ⟨W.heap.size, 0, none⟩), .pointer (some ⟨W.heap.size + 2, 0, none⟩)]) = W2 := ⟨_, rfl⟩
  have b1 : Boxed (((W.alloc (.cells #[.func (.yield l) #[] #[]] 160)).alloc (.cells #[.slice none 0 0] 64)).alloc (.cells #[.nilFunc] 161)) (W.heap.size + 2) 161 .nilFunc := by
    have := Boxed.new ((W.alloc (.cells #[.func (.yield l) #[] #[]] 160)).alloc (.cells #[.slice none 0 0] 64)) 161 .nilFunc
    simpa using this
  have b2 : Boxed W2 W.heap.size 160 (.func (.yield l) #[] #[]) := by
    rw [← hW2]; exact Boxed.other (((Boxed.new W 160 _).alloc _).alloc _) (by omega) _
  have b3 : Boxed W2 (W.heap.size + 1) 64 (.slice none 0 0) := by
    rw [← hW2]
    refine Boxed.other (Boxed.alloc ?_ _) (by omega) _
    have := Boxed.new (W.alloc (.cells #[.func (.yield l) #[] #[]] 160)) 64 (.slice none 0 0)
    simpa using this
  have b4 : Boxed W2 (W.heap.size + 2) 161 (.func (.func 115) #[] #[.pointer (some ⟨W.heap.size + 1, 0, none⟩), .pointer (some ⟨W.heap.size, 0, none⟩), .pointer (some ⟨W.heap.size + 2, 0, none⟩)]) := by
    rw [← hW2]; exact Boxed.set _ b1
  have hk2 : Keeps W W2 (fun _ => False) := by
    rw [← hW2]; exact ((((Keeps.refl W _).alloc _).alloc _).alloc _).setCell (fun h => by simp at h; omega) _
  have hsz : W2.heap.size = W.heap.size + 3 := by rw [← hW2]; simp [World.setCell]
  have hc := hdown (n - 1) (fun b => b = W.heap.size + 1 ∨ b = W.heap.size ∨ b = W.heap.size + 2) [] W2 ao ca list [] false (hrW.kept fun b h => hk2.block b (hSl b h) id) hca (by simpa using hD)
    ⟨b2, b4, ⟨none, 0, b3, World.ownsRow_nil _ _ _ _, fun g e => by simp [Value.ownBlock] at e⟩, .inl rfl, .inr (.inl rfl), .inr (.inr rfl)⟩
    (hJ _ _ _ _ _ h0 hk2 fun b h => ⟨by rw [hsz]; omega, .inr (by omega)⟩) (fun b h => by rw [hsz]; omega) (fun b h => ⟨by rw [hsz]; have := hSl b h; omega, fun e => by have := hSl b h; omega⟩)
  have q1 := b4.cell
  have q2 : W2.cell? ⟨B, 0, none⟩ = some (.slice ao list.length ca) := hk2.cell' hlB id
  have q3 := b1.cell
  have q4 := b1.frozen
  have HC : Hid _ := hc
  clear hW hJ hJx hY h0 hB hr hrW hdown b2 b3 b4 hk2 hsz hc hlB b1
  refine callsIn_of_wp Tryd.func114 rfl trivial ?_ rfl
  simp only [Tryd.ntmps114, List.size_toArray, List.length_cons, List.length_nil, Nat.reduceAdd, Nat.reduceSub, Array.replicate_succ, Array.replicate_zero, List.push_toArray, List.append_toArray, List.nil_append, List.cons_append]
  gi_wp2_with fail
  refine ⟨trivial, fun h => (by cases h), CallsIn.mono HC.out ?_⟩
  rintro e W3 (⟨rfl, O', xs, h1, h2, _⟩ | ⟨rfl, xs, h1, h2, h3⟩)
  · have HE : Hid (∃ O xs, xs.map Spot.ls = nodes D list [] false ∧ J O xs W3) := ⟨O', xs, h1, by simpa using h2⟩
    clear h1 h2
    gi_wp2
    go_end0
    exact ⟨⟨_, rfl⟩, .inl HE.out⟩
  · have HE : Hid (∃ pre, (pre ≠ [] ∧ pre.map Spot.ls <+: nodes D list [] false) ∧ Jx pre W3) := ⟨xs, ⟨h2, h1⟩, by simpa using h3⟩
    clear h1 h2 h3
    gi_wp2
    go_end0
    exact ⟨⟨_, rfl⟩, .inr HE.out⟩

set_option maxRecDepth 100000 in
set_option maxHeartbeats 1000000 in
theorem each_any (v : Value) (ao : Option Addr) (n ca : Nat) (hv : v = .slice ao n ca) (w : World) :
    Calls Tryd.prog 104 #[v] w fun e w' => e = .returned (.func (.func 114) #[] #[.pointer (some ⟨w.heap.size, 0, none⟩)]) ∧ w' = w.alloc (.cells #[v] 22) := by
  subst hv
  go_enter Tryd.func104, Tryd.ntmps104
  go_wp2
  go_ret
  exact ⟨rfl, rfl⟩
end Go.Proofs.YtcfdkadhclickaaDoor.Kit
