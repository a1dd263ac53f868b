import Derived.Test.YtdihbfjjddmbiaaGreatDoorEA
set_option maxRecDepth 100000
set_option maxHeartbeats 4000000
namespace Go.Proofs.YtdihbfjjddmbiaaGreatDoor.Kit
open Go.RowKit Go.Shelf Go.Deep
set_option linter.unusedVariables false
attribute [local go_sem] Oper.semAt_some run_store_func
theorem own_lt {w : World} {t s : Nat} {v : Value} {n : Nat} {xs : List Value} (h : w.ownsRow 0 t s v n xs) (g : Nat) (e : v.ownBlock = some g) : g < w.heap.size := by
  rcases h.2 with ⟨rfl, _⟩ | ⟨g', cap, cur, rfl, _, hgg, _⟩
  · simp [Value.ownBlock] at e
  simp [Value.ownBlock] at e
  subst e
  exact (Array.getElem?_eq_some_iff.1 hgg).1
section down
variable {l bw by_ bd : Nat} {S : Nat → Prop} {J : (Nat → Prop) → List Spot → World → Prop} {Jx : List Spot → World → Prop}
structure FBox (W : World) (B : Nat) (f : FT) (ao : Option Addr) (ca : Nat) : Prop where
  k : W.cell? ⟨B, 2, none⟩ = some (.int .i64 f.kind)
  l : W.cell? ⟨B, 6, none⟩ = some (.slice ao f.kids.length ca)
structure Mid (l bw by_ bd : Nat) (S : Nat → Prop) (J : (Nat → Prop) → List Spot → World → Prop) (W : World) (O O2 : Nat → Prop) (ys : List Spot) (path : List Nat) (W3 : World) : Prop where
  dn : Dn l bw by_ bd O2 path W3
  j : J O2 ys W3
  oo : ∀ b, O b → O2 b
  lt : ∀ b, O2 b → b < W3.heap.size
  s : ∀ b, S b → b < W3.heap.size ∧ ¬ O2 b
  k : KpOf S W W3
theorem ready (hJ : JAbides J)
    (hY : ∀ m O pre x W1, J O pre W1 → AtS S O x W1 → YieldAt Fence.wide m Tryz.prog l (encS x) W1 fun e W' =>
      (e = .returned (.bool true) ∧ J O (pre ++ [x]) W' ∧ KpOf (fun b => S b ∨ O b) W1 W') ∨ (e = .returned (.bool false) ∧ Jx (pre ++ [x]) W'))
    (m : Nat) {O O' : Nat → Prop} {pre xs : List Spot} {W wr W2 : World} {b o ca L d k g cap : Nat} {list : List FT} {path : List Nat} {inD : Bool} {f : FT} {ao' : Option Addr} {ca' : Nat}
    (hr : RowAt S W (d + 1) (some ⟨b, o, none⟩) list) (hL : L = list.length) (hca : L ≤ ca) (hk : k < L) (hbig : path.length + (d + 1) ≤ big)
    (hX : xs.map Spot.ls = upto d list path inD k ∧ Dn l bw by_ bd O' path wr ∧ J O' (pre ++ xs) wr ∧ (∀ b, O b → O' b) ∧ (∀ b, O' b → b < wr.heap.size) ∧ (∀ b, S b → b < wr.heap.size ∧ ¬ O' b) ∧ KpOf S W wr)
    (s2 : W2.heap[wr.heap.size]? = some (.cells #[.string f.name, .bool f.nul, .int .i64 f.kind, .int .i64 f.width, .int .i64 f.id, .int .i64 f.index, .slice ao' f.kids.length ca'] 52))
    (s3 : Dn l bw by_ bd (fun b => O' b ∨ b = wr.heap.size ∨ b = g) (path ++ [k]) W2) (s4 : Keeps wr W2 O')
    (s5 : ∀ b, (O' b ∨ b = wr.heap.size ∨ b = g) → b < W2.heap.size ∧ (O' b ∨ wr.heap.size ≤ b))
    (s6 : W2.ownsRow 0 3 1 (.slice (some ⟨g, 0, none⟩) (path.length + 1) cap) (path ++ [k]).length (ints (path ++ [k]))) :
    YieldAt Fence.wide m Tryz.prog l #[.agg #[.slice (some ⟨b, o, none⟩) L ca, .slice (some ⟨g, 0, none⟩) (path.length + 1) cap, .bool inD]] W2 fun e W3 =>
      (e = .returned (.bool true) ∧ FBox W3 wr.heap.size f ao' ca' ∧ Hid (Mid l bw by_ bd S J W O (fun b => O' b ∨ b = wr.heap.size ∨ b = g) (pre ++ (xs ++ [⟨some ⟨b, o, none⟩, ca, list, path ++ [k], g, cap, inD, d⟩])) (path ++ [k]) W3)) ∨
      (e = .returned (.bool false) ∧ Hid (∃ ys, ys.map Spot.ls <+: nodes (d + 1) list path inD ∧ ys ≠ [] ∧ Jx (pre ++ ys) W3)) := by
  obtain ⟨hxs, hD, hj, hOO, hOs, hSs, hK⟩ := hX
  have hKS : KpOf S wr W2 := fun c hc => s4.block c (hSs c hc).1 (hSs c hc).2
  have hgs : ∀ c, S c → ¬ (O' c ∨ c = wr.heap.size ∨ c = g) := fun c hc h => by
    have h1 := hSs c hc
    rcases (s5 c h).2 with h2 | h2
    · exact h1.2 h2
    omega
  have hat : AtS S (fun b => O' b ∨ b = wr.heap.size ∨ b = g) ⟨some ⟨b, o, none⟩, ca, list, path ++ [k], g, cap, inD, d⟩ W2 := by
    refine ⟨(hr.kept hK).kept hKS, by show list.length ≤ ca; omega, ⟨path, k, rfl, by show k < list.length; omega⟩, ?_, .inr (.inr rfl), by simp; omega⟩
    have e : (path ++ [k]).length = path.length + 1 := by simp
    rw [← e] at s6
    exact s6
  have h := hY m _ _ _ W2 (hJ _ _ _ _ _ hj s4 s5) hat
  have hE : encS ⟨some ⟨b, o, none⟩, ca, list, path ++ [k], g, cap, inD, d⟩ = #[.agg #[.slice (some ⟨b, o, none⟩) L ca, .slice (some ⟨g, 0, none⟩) (path.length + 1) cap, .bool inD]] := by
    simp [encS, hL]
  rw [hE] at h
  refine YieldAt.mono h ?_
  rintro e W3 (⟨rfl, hj3, hk3⟩ | ⟨rfl, hx3⟩)
  · refine .inl ⟨rfl, ?_, ?_⟩
    · have hB : W3.heap[wr.heap.size]? = _ := (hk3 _ (.inr (.inr (.inl rfl)))).trans s2
      exact ⟨by simp [World.cell?, hB], by simp [World.cell?, hB]⟩
    have hlt : ∀ c, c < W2.heap.size → (S c ∨ O' c ∨ c = wr.heap.size ∨ c = g) → c < W3.heap.size := fun c hc h => by
      have e := hk3 c h
      rw [Array.getElem?_eq_getElem hc] at e
      exact (Array.getElem?_eq_some_iff.1 e).1
    exact ⟨s3.kept fun c hc => hk3 c (.inr hc), by rw [← List.append_assoc]; exact hj3, fun c hc => .inl (hOO c hc), fun c hc => hlt c (s5 c hc).1 (.inr hc),
      fun c hc => ⟨hlt c (by have := (hSs c hc).1; have := s4.size; omega) (.inl hc), hgs c hc⟩, fun c hc => (hk3 c (.inl hc)).trans ((hKS c hc).trans (hK c hc))⟩
  refine .inr ⟨rfl, xs ++ [⟨some ⟨b, o, none⟩, ca, list, path ++ [k], g, cap, inD, d⟩], ?_, by simp, by rw [← List.append_assoc]; exact hx3⟩
  rw [List.map_append, hxs, nodes_succ]
  refine List.IsPrefix.trans ?_ (upto_prefix d list path inD (show k + 1 ≤ list.length by omega))
  rw [upto_succ]
  exact ⟨nodes d (list[k]!).kids (path ++ [k]) (inD || decide ((list[k]!).kind = 19)), by simp [Spot.ls]⟩
theorem own_less {W : World} {g cap n t : Nat} {xs : List Value} {u : Value} (h : W.ownsRow 0 t 1 (.slice (some ⟨g, 0, none⟩) (n + 1) cap) (n + 1) (xs ++ [u])) : W.ownsRow 0 t 1 (.slice (some ⟨g, 0, none⟩) n cap) n xs := by
  have hl : xs.length = n := by have := h.1; simp at this; omega
  rcases h.2 with ⟨e, _⟩ | ⟨g', cap', cur, e, h0, hg, h1, h2, h3, h4⟩
  · cases e
  cases e
  refine ⟨by simp [hl], .inr ⟨g, cap, cur, rfl, h0, hg, by omega, h2, h3, ?_⟩⟩
  have h5 := congrArg (List.take n) h4
  rw [List.take_take] at h5
  simp only [Nat.mul_one] at h5 ⊢
  rw [show min n (n + 1) = n by omega] at h5
  rw [h5, ← hl, List.take_left]
theorem back (hJ : JAbides J) {m : Nat} {O O' O2 : Nat → Prop} {pre xs : List Spot} {W wr W3 : World} {ao ao' : Option Addr} {ca ca' L d k g cap : Nat} {list : List FT} {path : List Nat} {inD : Bool} {f : FT}
    (ih : ∀ (n : Nat) (O : Nat → Prop) (pre : List Spot) (W : World) (ao : Option Addr) (ca : Nat) (list : List FT) (path : List Nat) (inD : Bool),
      RowAt S W d ao list → list.length ≤ ca → path.length + d ≤ big → Dn l bw by_ bd O path W → J O pre W → (∀ b, O b → b < W.heap.size) → (∀ b, S b → b < W.heap.size ∧ ¬ O b) →
      CallsIn Fence.wide n Tryz.prog 84 #[.slice ao list.length ca, .bool inD, .pointer (some ⟨bw, 0, none⟩), .pointer (some ⟨by_, 0, none⟩), .pointer (some ⟨bd, 0, none⟩)] W fun e W' =>
        (e = .returned (.bool true) ∧ ∃ O' xs, xs.map Spot.ls = nodes d list path inD ∧ J O' (pre ++ xs) W' ∧ Dn l bw by_ bd O' path W' ∧ (∀ b, O b → O' b) ∧ (∀ b, O' b → b < W'.heap.size) ∧ (∀ b, S b → ¬ O' b) ∧ KpOf S W W') ∨
        (e = .returned (.bool false) ∧ ∃ xs, xs.map Spot.ls <+: nodes d list path inD ∧ xs ≠ [] ∧ Jx (pre ++ xs) W'))
    (hr' : RowAt S wr d ao' f.kids) (hle' : f.kids.length ≤ ca') (hL : L = list.length) (hk : k < L) (hf : f = list[k]'(by omega)) (hbig : path.length + (d + 1) ≤ big)
    (hX : xs.map Spot.ls = upto d list path inD k ∧ Dn l bw by_ bd O' path wr ∧ J O' (pre ++ xs) wr ∧ (∀ b, O b → O' b) ∧ (∀ b, O' b → b < wr.heap.size) ∧ (∀ b, S b → b < wr.heap.size ∧ ¬ O' b) ∧ KpOf S W wr)
    (M : Mid l bw by_ bd S J W O O2 (pre ++ (xs ++ [⟨ao, ca, list, path ++ [k], g, cap, inD, d⟩])) (path ++ [k]) W3) (X : Bool) (hXe : X = (inD || decide (f.kind = 19))) :
    CallsIn Fence.wide m Tryz.prog 84 #[.slice ao' f.kids.length ca', .bool X, .pointer (some ⟨bw, 0, none⟩), .pointer (some ⟨by_, 0, none⟩), .pointer (some ⟨bd, 0, none⟩)] W3 fun e W4 =>
      (e = .returned (.bool true) ∧ ∃ g4 cap4, W4.cell? ⟨bw, 0, none⟩ = some (.slice (some ⟨g4, 0, none⟩) (path.length + 1) cap4) ∧ W4.frozen? ⟨bw, 0, none⟩ = false ∧ path.length + 1 ≤ cap4 ∧
        ∃ O4 ys, Hid (ys.map Spot.ls = upto d list path inD (k + 1) ∧ Dn l bw by_ bd O4 path (W4.setCell ⟨bw, 0, none⟩ (.slice (some ⟨g4, 0, none⟩) path.length cap4)) ∧ J O4 (pre ++ ys) (W4.setCell ⟨bw, 0, none⟩ (.slice (some ⟨g4, 0, none⟩) path.length cap4)) ∧ (∀ b, O b → O4 b) ∧
          (∀ b, O4 b → b < (W4.setCell ⟨bw, 0, none⟩ (.slice (some ⟨g4, 0, none⟩) path.length cap4)).heap.size) ∧ (∀ b, S b → b < (W4.setCell ⟨bw, 0, none⟩ (.slice (some ⟨g4, 0, none⟩) path.length cap4)).heap.size ∧ ¬ O4 b) ∧ KpOf S W (W4.setCell ⟨bw, 0, none⟩ (.slice (some ⟨g4, 0, none⟩) path.length cap4)))) ∨
      (e = .returned (.bool false) ∧ Hid (∃ ys, ys.map Spot.ls <+: nodes (d + 1) list path inD ∧ ys ≠ [] ∧ Jx (pre ++ ys) W4)) := by
  obtain ⟨hxs, -, -, -, -, hSs, hK⟩ := hX
  have hkS : KpOf S wr W3 := fun b hb => (M.k b hb).trans (hK b hb).symm
  have hf' : list[k]! = f := by rw [hf]; exact getElem!_pos list k (by omega)
  have hup : upto d list path inD (k + 1) = (xs ++ [(⟨ao, ca, list, path ++ [k], g, cap, inD, d⟩ : Spot)]).map Spot.ls ++ nodes d f.kids (path ++ [k]) X := by
    rw [upto_succ, hf', List.map_append, hxs, hXe]; simp [Spot.ls]
  refine (ih m O2 _ W3 ao' ca' f.kids (path ++ [k]) X (hr'.kept hkS) hle' (by simp; omega) M.dn M.j M.lt M.s).mono ?_
  rintro e W4 (⟨rfl, O4, ys, hys, hj, hD, hOO, hOs, hSn, hk4⟩ | ⟨rfl, ys, hp, hne, hx⟩)
  · refine .inl ⟨rfl, ?_⟩
    obtain ⟨vo, vc, hv, hown, hvO⟩ := hD.wy
    have hlen : (path ++ [k]).length = path.length + 1 := by simp
    rw [hlen] at hv hown hvO
    rw [ints_snoc] at hown
    obtain ⟨g4, cap4, e⟩ := ownsRow_succ hown
    cases e
    have hcap : path.length + 1 ≤ vc := by
      rcases hown.2 with ⟨e, _⟩ | ⟨g', cap', cur, e, _, _, h, _⟩
      · cases e
      cases e; exact h
    have hbl : bw < W4.heap.size := hOs _ hD.ow
    have hoth : ∀ b, b ≠ bw → (W4.setCell ⟨bw, 0, none⟩ (.slice (some ⟨g4, 0, none⟩) path.length vc)).heap[b]? = W4.heap[b]? := fun b h => heap_setCell_other W4 ⟨bw, 0, none⟩ b _ h
    have hsz : (W4.setCell ⟨bw, 0, none⟩ (.slice (some ⟨g4, 0, none⟩) path.length vc)).heap.size = W4.heap.size := by simp [World.setCell]
    have hgne : g4 ≠ bw := fun e => box_ne_row hv hown (by decide) (by rw [e]; rfl)
    have hby : by_ ≠ bw := fun e => by have h1 : W4.heap[by_]? = _ := hD.yb; rw [e, show W4.heap[bw]? = _ from hv] at h1; simp at h1
    have hbd : bd ≠ bw := fun e => by have h1 : W4.heap[bd]? = _ := hD.db; rw [e, show W4.heap[bw]? = _ from hv] at h1; simp at h1
    have hSl : ∀ b, S b → b < W4.heap.size := fun b hb => by
      have h1 := M.s b hb
      have h2 := hk4 b hb
      rw [Array.getElem?_eq_getElem h1.1] at h2
      exact (Array.getElem?_eq_some_iff.1 h2).1
    refine ⟨g4, vc, hv.cell, hv.frozen, hcap, O4, xs ++ [⟨ao, ca, list, path ++ [k], g, cap, inD, d⟩] ++ ys, ?_, ?_, ?_, fun b h => hOO b (M.oo b h), fun b h => by rw [hsz]; exact hOs b h, fun b h => ⟨by rw [hsz]; exact hSl b h, hSn b h⟩, ?_⟩
    · rw [List.map_append, hys, hup]
    · exact ⟨Boxed.kp hD.yb (hoth _ hby), Boxed.kp hD.db (hoth _ hbd), ⟨some ⟨g4, 0, none⟩, vc, Boxed.set _ hv, own_less (own_kp hown fun g' e => by cases e; exact hoth _ hgne), fun g' e => hvO g' e⟩, hD.ow, hD.oy, hD.od⟩
    · rw [← List.append_assoc]
      exact hJ O4 O4 _ _ _ hj ((Keeps.refl W4 O4).setCell (fun _ => hD.ow) _) fun b h => ⟨by rw [hsz]; exact hOs b h, .inl h⟩
    intro b hb
    rw [hoth b fun e => hSn b hb (e ▸ hD.ow)]
    exact (hk4 b hb).trans (M.k b hb)
  refine .inr ⟨rfl, xs ++ [⟨ao, ca, list, path ++ [k], g, cap, inD, d⟩] ++ ys, ?_, by simp, by rw [← List.append_assoc]; exact hx⟩
  rw [nodes_succ]
  refine List.IsPrefix.trans ?_ (upto_prefix d list path inD (show k + 1 ≤ list.length by omega))
  rw [hup, List.map_append]
  exact (List.prefix_append_right_inj _).2 hp
theorem down_in (hJ : JAbides J) (hJx : XAbides Jx)
    (hY : ∀ m O pre x W1, J O pre W1 → AtS S O x W1 → YieldAt Fence.wide m Tryz.prog l (encS x) W1 fun e W' =>
      (e = .returned (.bool true) ∧ J O (pre ++ [x]) W' ∧ KpOf (fun b => S b ∨ O b) W1 W') ∨ (e = .returned (.bool false) ∧ Jx (pre ++ [x]) W')) (d : Nat) :
    ∀ (n : Nat) (O : Nat → Prop) (pre : List Spot) (W : World) (ao : Option Addr) (ca : Nat) (list : List FT) (path : List Nat) (inD : Bool),
      RowAt S W d ao list → list.length ≤ ca → path.length + d ≤ big → Dn l bw by_ bd O path W → J O pre W → (∀ b, O b → b < W.heap.size) → (∀ b, S b → b < W.heap.size ∧ ¬ O b) →
      CallsIn Fence.wide n Tryz.prog 84 #[.slice ao list.length ca, .bool inD, .pointer (some ⟨bw, 0, none⟩), .pointer (some ⟨by_, 0, none⟩), .pointer (some ⟨bd, 0, none⟩)] W fun e W' =>
        (e = .returned (.bool true) ∧ ∃ O' xs, xs.map Spot.ls = nodes d list path inD ∧ J O' (pre ++ xs) W' ∧ Dn l bw by_ bd O' path W' ∧ (∀ b, O b → O' b) ∧ (∀ b, O' b → b < W'.heap.size) ∧ (∀ b, S b → ¬ O' b) ∧ KpOf S W W') ∨
        (e = .returned (.bool false) ∧ ∃ xs, xs.map Spot.ls <+: nodes d list path inD ∧ xs ≠ [] ∧ Jx (pre ++ xs) W') := by
  induction d with
  | zero =>
    intro n O pre W ao ca list path inD hr hca hbig hD hj hO hS
    obtain rfl : list = [] := hr
    refine callsIn_of_wp Tryz.func84 rfl trivial ?_ rfl
    simp only [Tryz.ntmps84, List.size_toArray, List.length_cons, List.length_nil, Nat.reduceAdd, Nat.reduceSub, Array.replicate_succ, Array.replicate_zero, List.push_toArray, List.append_toArray, List.nil_append, List.cons_append]
    gi_wp2
    gi_loopw [12] (fun p wr => p = .int .i64 0 ∧ wr = W) (fun p _ => 0)
    case atStart => exact ⟨rfl, rfl⟩
    case round =>
      obtain ⟨rfl, rfl⟩ := hrel
      gi_wp2
      go_ret
      exact .inl ⟨rfl, O, [], rfl, by simpa using hj, hD, fun _ h => h, hO, fun b h => (hS b h).2, fun _ _ => rfl⟩
  | succ d ih =>
    intro n O pre W ao ca list path inD hr hca hbig hD hj hO hS
    have hlen : list.length ≤ 1000000000000 := hr.1
    refine callsIn_of_wp Tryz.func84 rfl trivial ?_ rfl
    simp only [Tryz.ntmps84, List.size_toArray, List.length_cons, List.length_nil, Nat.reduceAdd, Nat.reduceSub, Array.replicate_succ, Array.replicate_zero, List.push_toArray, List.append_toArray, List.nil_append, List.cons_append]
    have HR : Hid (RowAt S W (d + 1) ao list) := hr
    have HI : Hid (Dn l bw by_ bd O path W ∧ J O pre W ∧ (∀ b, O b → b < W.heap.size) ∧ ∀ b, S b → b < W.heap.size ∧ ¬ O b) := ⟨hD, hj, hO, hS⟩
    have HB : Hid (path.length + (d + 1) ≤ big) := hbig
    have HY : Hid _ := hY
    have HJ : Hid _ := And.intro hJ hJx
    have IH : Hid _ := ih
    obtain ⟨L, hL⟩ : ∃ L, L = list.length := ⟨_, rfl⟩
    rw [← hL] at hlen hca ⊢
    have HL : Hid (L = list.length) := hL
    clear hr hD hj hO hS hbig hY hJ hJx ih hL
    gi_wp2
    gi_loopw [12] (fun p wr => ∃ k : Nat, k ≤ L ∧ p = .int .i64 (k : Int) ∧ ∃ O' xs, Hid (xs.map Spot.ls = upto d list path inD k ∧ Dn l bw by_ bd O' path wr ∧ J O' (pre ++ xs) wr ∧ (∀ b, O b → O' b) ∧ (∀ b, O' b → b < wr.heap.size) ∧ (∀ b, S b → b < wr.heap.size ∧ ¬ O' b) ∧ KpOf S W wr)) (fun p _ => L - (intOf p).toNat)
    case atStart =>
      obtain ⟨hD, hj, hO, hS⟩ := HI.out
      exact ⟨0, Nat.zero_le _, rfl, O, [], rfl, hD, by simpa using hj, fun _ h => h, hO, hS, fun _ _ => rfl⟩
    case round =>
      clear HI
      obtain ⟨k, hk, rfl, O', xs, HX⟩ := hrel
      by_cases hlt : k < L
      · obtain ⟨_, hrow⟩ := HR.out
        have hl := HL.out
        obtain ⟨b, o, rfl, hSb, hcs⟩ := hrow (by intro e; rw [e] at hl; simp at hl; omega)
        have hkl : k < list.length := by omega
        obtain ⟨ao', ca', hc, hle', hr'⟩ := hcs k hkl
        obtain ⟨hxs, hD, hj, hOO, hOs, hSs, hK⟩ := HX.out
        have hc2 := hc.kept (hK b hSb)
        obtain ⟨f, hf⟩ : ∃ f, f = list[k]'hkl := ⟨_, rfl⟩
        rw [← hf] at hc hc2 hle' hr'
        have HR' : Hid (RowAt S wr d ao' f.kids) := hr'.kept hK
        have HF : Hid (f = list[k]'hkl) := hf
        obtain ⟨g0, g1, g2, g3, g4, g5, g6⟩ := hc2
        obtain ⟨vo, vc, hv, hown, hvO⟩ := hD.wy
        have HO : Hid (wr.ownsRow 0 3 1 (.slice vo path.length vc) path.length (ints path)) := hown
        have HP : Hid _ := And.intro hv hvO
        have h1 : ∀ x, (wr.alloc x).cell? ⟨bw, 0, none⟩ = some (.slice vo path.length vc) := fun x => (hv.alloc x).cell
        have h1f : ∀ x, (wr.alloc x).frozen? ⟨bw, 0, none⟩ = false := fun x => (hv.alloc x).frozen
        have hpl := HB.out
        unfold big at hpl
        have HS : Hid (∃ j, j = k ∧ Dn l bw by_ bd O' path wr ∧ Boxed wr bw 65 (.slice vo path.length vc) ∧ ∀ g, (Value.slice vo path.length vc).ownBlock = some g → O' g) := ⟨k, rfl, hD, hv, hvO⟩
        clear hrow hcs hc hr' hxs hj hOO hOs hSs hK hf hD hv hown hvO HP hl
        gi_wp2_with (gi_at_builtin; refine Hid.out ?_)
        unfold Hid
        refine wpListIn_append_any _ rfl (.tmp 17) (.tmp 19) 65 65 rfl 3 (.int .i64 0) 8 Tryz.underlying65 info3 rfl _ path.length (ints path) rfl (own_kp HO.out fun g e => ((Keeps.refl wr (fun _ => False)).alloc _ |>.alloc _).block g (own_lt HO.out g e) id) _ 1 [.int .i64 (k : Int)] rfl (src_int_at _ _ (by simp) _ rfl) (by omega) (by omega) ?_
        intro v' w1 hown1 hgrow1 hor1
        obtain ⟨g', cap', rfl⟩ := ownsRow_succ hown1
        obtain ⟨W2, hW2⟩ := ex (w1.setCell ⟨bw, 0, none⟩ (.slice (some ⟨g', 0, none⟩) (path.length + 1) cap'))
        obtain ⟨s1, s2, s3, s4, s5, s6⟩ := dn_step (k := k) HS.out.choose_spec.2.1 HX.out.2.2.2.2.1 HS.out.choose_spec.2.2.1 HO.out HS.out.choose_spec.2.2.2 hown1 hgrow1 hor1
        rw [hW2] at s2 s3 s4 s5 s6
        have q1 := s1.cell
        have q2 := s1.frozen
        have q3 := s3.yb.cell
        obtain ⟨wo, wc, q4, _, _⟩ := s3.wy
        have q5 : W2.cell? ⟨bw, 0, none⟩ = some (.slice (some ⟨g', 0, none⟩) (path.length + 1) cap') := by rw [← hW2]; exact (Boxed.set _ s1).cell
        obtain ⟨fn, tmps, assign, body, hy, hR⟩ := ready HJ.out.1 HY.out (n - 1) HR.out HL.out hca hlt HB.out HX.out s2 s3 s4 s5 s6
        clear s1 s2 s3 s4 s5 s6 q4 hown1 hgrow1 hor1
        gi_wp2_with fail
        refine ⟨fun h => (by cases h), hR.mono ?_⟩
        rintro e W3 (⟨rfl, hfb, HM⟩ | ⟨rfl, HN⟩)
        · have p1 := hfb.k
          have p2 := hfb.l
          have p3 := HM.out.dn.db.cell
          clear hR hy q1 q2 q3 q5 hW2
          have hIH := fun X hX => back (m := n - 1) HJ.out.1 IH.out HR'.out hle' HL.out hlt HF.out HB.out HX.out HM.out X hX
          have HI2 : Hid _ := hIH
          clear hIH
          gi_wp2_with fail
          all_goals
            first
              | (have hi := ‹inD = true›; subst hi)
              | (have hi : inD = false := (by simpa using ‹¬ inD = true›); subst hi)
            refine ⟨trivial, fun h => (by cases h), (HI2.out _ (by first | (simp; done) | (simp; rfl))).mono ?_⟩
            rintro e W4 (⟨rfl, g4, cap4, r1, r2, r3, O4, ys, H4⟩ | ⟨rfl, HN⟩)
            · clear p1 p2 p3 hfb HM HI2
              gi_wp2
              go_roundw
              case rel => exact ⟨k + 1, by omega, by simp, O4, ys, H4⟩
              case measure => simp [intOf]; omega
            gi_wp2
            go_ret
            exact .inr ⟨rfl, HN.out⟩
        clear hR hy q1 q2 q3 q5 hW2
        gi_wp2
        go_ret
        exact .inr ⟨rfl, HN.out⟩
      obtain ⟨hxs, hD, hj, hOO, hOs, hSs, hK⟩ := HX.out
      have hkL : k = L := by omega
      subst hkL
      have hl := HL.out
      have HE : Hid (∃ O' xs, xs.map Spot.ls = nodes (d + 1) list path inD ∧ J O' (pre ++ xs) wr ∧ Dn l bw by_ bd O' path wr ∧ (∀ b, O b → O' b) ∧ (∀ b, O' b → b < wr.heap.size) ∧ (∀ b, S b → ¬ O' b) ∧ KpOf S W wr) :=
        ⟨O', xs, by rw [nodes_succ, hxs, hl], hj, hD, hOO, hOs, fun b h => (hSs b h).2, hK⟩
      clear hxs hD hj hOO hOs hSs hK hl
      gi_wp2
      go_ret
      exact .inl ⟨rfl, HE.out⟩
end down
end Go.Proofs.YtdihbfjjddmbiaaGreatDoor.Kit
namespace Go.Proofs.YtdihbfjjddmbiaaGreatDoor.Kit
open Go.RowKit Go.Shelf Go.Deep
set_option linter.unusedVariables false
attribute [local go_sem] Oper.semAt_some run_store_func
theorem yieldAny {m m' : Nat} {P : Program} {l : Nat} {args : Array Value} {W : World} {R : Ending → World → Prop} (h : YieldAt Fence.wide m P l args W R) : YieldAt Fence.wide m' P l args W R := by
  obtain ⟨fn, tmps, assign, body, hy, hR⟩ := h
  exact ⟨fn, tmps, assign, body, hy, hR.1, fun c cs _ => hR.2 c cs fun d hd => by cases hd⟩
theorem each1_seq (n B : Nat) (S : Nat → Prop) (D : Nat) (ao : Option Addr) (ca : Nat) (list : List FT) (w : World) (hB : w.cell? ⟨B, 0, none⟩ = some (.slice ao list.length ca)) (hr : RowAt S w D ao list) (hca : list.length ≤ ca) (hD : D ≤ big) (hS : ∀ b, S b → b < w.heap.size) :
    SeqOwn n Tryz.prog 83 #[.pointer (some ⟨B, 0, none⟩)] encS (fun O _ x W => AtS S O x W) S (fun xs => xs.map Spot.ls = nodes D list [] false) (fun pre => pre ≠ [] ∧ pre.map Spot.ls <+: nodes D list [] false) w := by
  intro l J Jx W hW hJ hJx hY h0
  have hlB : W.cell? ⟨B, 0, none⟩ = some (.slice ao list.length ca) := hW.cell' hB id
  have hBl : B < W.heap.size := block_lt_of_cell hlB
  have hSl : ∀ b, S b → b < W.heap.size := fun b h => Nat.lt_of_lt_of_le (hS b h) hW.size
  have hrW : RowAt S W D ao list := hr.kept fun b h => hW.block b (hS b h) id
  have hdown := down_in (bw := W.heap.size + 1) (by_ := W.heap.size) (bd := W.heap.size + 2) hJ hJx (fun m O pre x W1 h1 h2 => yieldAny (m' := m) (hY O pre x W1 h1 h2)) D
  obtain ⟨W2, hW2⟩ := ex ((((W.alloc (.cells #[.func (.yield l) #[] #[]] 129)).alloc (.cells #[.slice none 0 0] 65)).alloc (.cells #[.nilFunc] 130)).setCell ⟨W.heap.size + 2, 0, none⟩ (.func (.func 84) #[] #[.pointer (some ⟨W.heap.size + 1, 0, none⟩), .pointer (some ⟨W.heap.size, 0, none⟩), .pointer (some ⟨W.heap.size + 2, 0, none⟩)]))
  have b1 : Boxed (((W.alloc (.cells #[.func (.yield l) #[] #[]] 129)).alloc (.cells #[.slice none 0 0] 65)).alloc (.cells #[.nilFunc] 130)) (W.heap.size + 2) 130 .nilFunc := by
    have := Boxed.new ((W.alloc (.cells #[.func (.yield l) #[] #[]] 129)).alloc (.cells #[.slice none 0 0] 65)) 130 .nilFunc
    simpa using this
  have b2 : Boxed W2 W.heap.size 129 (.func (.yield l) #[] #[]) := by
    rw [← hW2]; exact Boxed.other (((Boxed.new W 129 _).alloc _).alloc _) (by omega) _
  have b3 : Boxed W2 (W.heap.size + 1) 65 (.slice none 0 0) := by
    rw [← hW2]
    refine Boxed.other (Boxed.alloc ?_ _) (by omega) _
    have := Boxed.new (W.alloc (.cells #[.func (.yield l) #[] #[]] 129)) 65 (.slice none 0 0)
    simpa using this
  have b4 : Boxed W2 (W.heap.size + 2) 130 (.func (.func 84) #[] #[.pointer (some ⟨W.heap.size + 1, 0, none⟩), .pointer (some ⟨W.heap.size, 0, none⟩), .pointer (some ⟨W.heap.size + 2, 0, none⟩)]) := by
    rw [← hW2]; exact Boxed.set _ b1
  have hk2 : Keeps W W2 (fun _ => False) := by
    rw [← hW2]; exact ((((Keeps.refl W _).alloc _).alloc _).alloc _).setCell (fun h => by simp at h; omega) _
  have hsz : W2.heap.size = W.heap.size + 3 := by rw [← hW2]; simp [World.setCell]
  have hc := hdown (n - 1) (fun b => b = W.heap.size + 1 ∨ b = W.heap.size ∨ b = W.heap.size + 2) [] W2 ao ca list [] false (hrW.kept fun b h => hk2.block b (hSl b h) id) hca (by simpa using hD)
    ⟨b2, b4, ⟨none, 0, b3, World.ownsRow_nil _ _ _ _, fun g e => by simp [Value.ownBlock] at e⟩, .inl rfl, .inr (.inl rfl), .inr (.inr rfl)⟩
    (hJ _ _ _ _ _ h0 hk2 fun b h => ⟨by rw [hsz]; omega, .inr (by omega)⟩) (fun b h => by rw [hsz]; omega) (fun b h => ⟨by rw [hsz]; have := hSl b h; omega, fun e => by have := hSl b h; omega⟩)
  have q1 := b4.cell
  have q2 : W2.cell? ⟨B, 0, none⟩ = some (.slice ao list.length ca) := hk2.cell' hlB id
  have q3 := b1.cell
  have q4 := b1.frozen
  have HC : Hid _ := hc
  clear hW hJ hJx hY h0 hB hr hrW hdown b2 b3 b4 hk2 hsz hc hlB b1
  refine callsIn_of_wp Tryz.func83 rfl trivial ?_ rfl
  simp only [Tryz.ntmps83, List.size_toArray, List.length_cons, List.length_nil, Nat.reduceAdd, Nat.reduceSub, Array.replicate_succ, Array.replicate_zero, List.push_toArray, List.append_toArray, List.nil_append, List.cons_append]
  gi_wp2_with fail
  refine ⟨trivial, fun h => (by cases h), CallsIn.mono HC.out ?_⟩
  rintro e W3 (⟨rfl, O', xs, h1, h2, _⟩ | ⟨rfl, xs, h1, h2, h3⟩)
  · have HE : Hid (∃ O xs, xs.map Spot.ls = nodes D list [] false ∧ J O xs W3) := ⟨O', xs, h1, by simpa using h2⟩
    clear h1 h2
    gi_wp2
    go_end0
    exact ⟨⟨_, rfl⟩, .inl HE.out⟩
  have HE : Hid (∃ pre, (pre ≠ [] ∧ pre.map Spot.ls <+: nodes D list [] false) ∧ Jx pre W3) := ⟨xs, ⟨h2, h1⟩, by simpa using h3⟩
  clear h1 h2 h3
  gi_wp2
  go_end0
  exact ⟨⟨_, rfl⟩, .inr HE.out⟩
theorem each_any (v : Value) (ao : Option Addr) (n ca : Nat) (hv : v = .slice ao n ca) (w : World) :
    Calls Tryz.prog 67 #[v] w fun e w' => e = .returned (.func (.func 83) #[] #[.pointer (some ⟨w.heap.size, 0, none⟩)]) ∧ w' = w.alloc (.cells #[v] 22) := by
  subst hv
  go_enter Tryz.func67, Tryz.ntmps67
  go_wp2
  go_ret
  exact ⟨rfl, rfl⟩
end Go.Proofs.YtdihbfjjddmbiaaGreatDoor.Kit
