import Derived.Test.YtknnoiomdngmfaaGreatDoorKitTwo
set_option maxRecDepth 100000
set_option maxHeartbeats 4000000
namespace Go.Proofs.YtknnoiomdngmfaaGreatDoor.Kit
open Go.RowKit Go.Shelf Go.Deep
def nodeCells (x : LS) (wb wc : Nat) (fo : Option Addr) (fc : Nat) (ao : Option Addr) (ca : Nat) : List Value :=
  [.slice (some ⟨wb, 0, none⟩) x.path.length wc, .string x.fld.name, .bool x.fld.nul, .int .i64 x.fld.kind, .int .i64 x.fld.width, .int .i64 x.fld.id, .int .i64 x.fld.index, .slice fo x.fld.kids.length fc, .slice ao x.idx ca, .bool x.inD]
structure NodeIn (S : Nat → Prop) (W : World) (x : LS) (wb wc : Nat) (fo : Option Addr) (fc : Nat) (ao : Option Addr) (ca : Nat) : Prop where
  way : W.ownsRow 0 3 1 (.slice (some ⟨wb, 0, none⟩) x.path.length wc) x.path.length (ints x.path)
  row : ∃ D, RowAt S W (D + 1) ao x.list
  kids : ∃ D, RowAt S W D fo x.fld.kids
  le : x.list.length ≤ ca
  kle : x.fld.kids.length ≤ fc
  ix : x.idx < x.list.length
def OutAt (S : Nat → Prop) (W : World) (v : Value) (out : List LS) : Prop :=
  ∃ cs, W.ownsRow 0 88 10 v out.length cs ∧ ∀ j (h : j < out.length), ∃ wb wc fo fc ao ca, (cs.drop (j * 10)).take 10 = nodeCells out[j] wb wc fo fc ao ca ∧ NodeIn S W out[j] wb wc fo fc ao ca
theorem row_apart {W : World} {t t' s s' n n' g : Nat} {v v' : Value} {xs ys : List Value} (h : W.ownsRow 0 t s v n xs) (h' : W.ownsRow 0 t' s' v' n' ys) (ht : t ≠ t') (e : v.ownBlock = some g) : v'.ownBlock ≠ some g := by
  intro e'
  rcases h.2 with ⟨rfl, _⟩ | ⟨g1, c1, cur1, rfl, _, hg1, _⟩
  · simp [Value.ownBlock] at e
  rcases h'.2 with ⟨rfl, _⟩ | ⟨g2, c2, cur2, rfl, _, hg2, _⟩
  · simp [Value.ownBlock] at e'
  simp [Value.ownBlock] at e e'
  subst e; subst e'
  rw [hg1] at hg2
  simp at hg2
  exact ht hg2.2
theorem row_kp {W W' : World} {t s n : Nat} {v : Value} {xs : List Value} (h : W.ownsRow 0 t s v n xs) (e : ∀ g, v.ownBlock = some g → W'.heap[g]? = W.heap[g]?) : W'.ownsRow 0 t s v n xs := by
  refine ⟨h.1, h.2.imp id ?_⟩
  rintro ⟨g, cap, cur, rfl, h0, hg, r⟩
  exact ⟨g, cap, cur, rfl, h0, (e g rfl).trans hg, r⟩
theorem way_kp {W W' : World} {v u : Value} {n m : Nat} {cs xs : List Value} (hv : W.ownsRow 0 88 10 v n cs) (hu : W.ownsRow 0 3 1 u m xs) (k : Keeps W W' (fun b => v.ownBlock = some b)) : W'.ownsRow 0 3 1 u m xs :=
  row_kp hu fun g e => k.block g (own_lt hu g e) (row_apart hu hv (by decide) e)
theorem NodeIn.keeps {S : Nat → Prop} {W W' : World} {x : LS} {wb wc : Nat} {fo : Option Addr} {fc : Nat} {ao : Option Addr} {ca : Nat} (h : NodeIn S W x wb wc fo fc ao ca) {v : Value} {n : Nat} {cs : List Value} (hv : W.ownsRow 0 88 10 v n cs)
    (k : Keeps W W' (fun b => v.ownBlock = some b)) (hS : ∀ b, S b → b < W.heap.size ∧ v.ownBlock ≠ some b) : NodeIn S W' x wb wc fo fc ao ca := by
  have hk : KpOf S W W' := fun b hb => k.block b (hS b hb).1 (hS b hb).2
  obtain ⟨D, hD⟩ := h.row
  obtain ⟨E, hE⟩ := h.kids
  exact ⟨way_kp hv h.way k, ⟨D, hD.kept hk⟩, ⟨E, hE.kept hk⟩, h.le, h.kle, h.ix⟩
theorem OutAt.keeps {S : Nat → Prop} {W W' : World} {v : Value} {out : List LS} (h : OutAt S W v out) (k : Keeps W W' (fun _ => False)) (hS : ∀ b, S b → b < W.heap.size ∧ v.ownBlock ≠ some b) : OutAt S W' v out := by
  obtain ⟨cs, hown, hc⟩ := h
  refine ⟨cs, row_kp hown fun g e => k.block g (own_lt hown g e) id, fun j hj => ?_⟩
  obtain ⟨wb, wc, fo, fc, ao, ca, h1, h2⟩ := hc j hj
  exact ⟨wb, wc, fo, fc, ao, ca, h1, h2.keeps hown (k.mono fun _ _ h => h.elim) hS⟩
theorem out_snoc {S : Nat → Prop} {W W' : World} {v v' : Value} {out : List LS} {cs : List Value} (hown : W.ownsRow 0 88 10 v out.length cs)
    (hc : ∀ j (h : j < out.length), ∃ wb wc fo fc ao ca, (cs.drop (j * 10)).take 10 = nodeCells out[j] wb wc fo fc ao ca ∧ NodeIn S W out[j] wb wc fo fc ao ca)
    (k : Keeps W W' (fun b => v.ownBlock = some b)) (hS : ∀ b, S b → b < W.heap.size ∧ v.ownBlock ≠ some b) {x : LS} {wb wc : Nat} {fo : Option Addr} {fc : Nat} {ao : Option Addr} {ca : Nat}
    (hown' : W'.ownsRow 0 88 10 v' (out.length + 1) (cs ++ nodeCells x wb wc fo fc ao ca)) (hx : NodeIn S W' x wb wc fo fc ao ca) : OutAt S W' v' (out ++ [x]) := by
  have hl : cs.length = out.length * 10 := hown.1
  refine ⟨_, by rw [List.length_append]; exact hown', fun j hj => ?_⟩
  by_cases hlt : j < out.length
  · obtain ⟨wb, wc, fo, fc, ao, ca, h1, h2⟩ := hc j hlt
    refine ⟨wb, wc, fo, fc, ao, ca, ?_, ?_⟩
    · rw [List.getElem_append_left hlt, ← h1, List.drop_append_of_le_length (by omega), List.take_append_of_le_length (by simp; omega)]
    rw [List.getElem_append_left hlt]; exact h2.keeps hown k hS
  obtain rfl : j = out.length := by simp at hj; omega
  refine ⟨wb, wc, fo, fc, ao, ca, ?_, ?_⟩
  · rw [List.getElem_append_right (by omega), ← hl, List.drop_left]
    simp [nodeCells]
  rw [List.getElem_append_right (by omega)]; simpa using hx
theorem own_formN {W : World} {t s n : Nat} {v : Value} {xs : List Value} (h : W.ownsRow 0 t s v n xs) : ∃ vo vc, v = .slice vo n vc := by
  rcases h.2 with ⟨rfl, rfl⟩ | ⟨g, cap, cur, rfl, _⟩
  · exact ⟨_, _, rfl⟩
  exact ⟨_, _, rfl⟩
theorem src_node (w : World) (G : Nat) (hG : w.heap.size = G) (a b c d e f g h i j : Value) (hone : ∀ v ∈ [a, b, c, d, e, f, g, h, i, j], v.oneCell' = true) :
    Src Tryz.prog 10 85 (.slice (some ⟨G, 0, none⟩) 1 1) 1 [a, b, c, d, e, f, g, h, i, j] (w.alloc (.cells #[a, b, c, d, e, f, g, h, i, j] 88)).drew := by
  subst hG
  refine Src.ofSlice _ Tryz.underlying85 _ _ _ _ rfl ?_ (by simpa using hone)
  intro k v hk
  match k, hk with
  | 0, hk => simp at hk; subst hk; simp [Addr.add]
  | 1, hk => simp at hk; subst hk; simp [Addr.add]
  | 2, hk => simp at hk; subst hk; simp [Addr.add]
  | 3, hk => simp at hk; subst hk; simp [Addr.add]
  | 4, hk => simp at hk; subst hk; simp [Addr.add]
  | 5, hk => simp at hk; subst hk; simp [Addr.add]
  | 6, hk => simp at hk; subst hk; simp [Addr.add]
  | 7, hk => simp at hk; subst hk; simp [Addr.add]
  | 8, hk => simp at hk; subst hk; simp [Addr.add]
  | 9, hk => simp at hk; subst hk; simp [Addr.add]
  | k + 10, hk => simp at hk
noncomputable def z61 : Value := ((Tryz.prog.info? 88).bind (·.zero)).getD default
theorem c61 : z61.cells.size = 10 := by kernel_rfl
theorem info61 : (Tryz.prog.info? 88).map (fun i => (i.zero, i.size, i.bytes)) = some (some z61, 10, 136) := by kernel_rfl
theorem size3 : (Tryz.prog.info? 3).map (·.size) = some 1 := by kernel_rfl
theorem splice_front {α : Type} (L cs : List α) (h : L.length = cs.length + 1) (u : α) : (splice L 0 cs).set cs.length u = cs ++ [u] := by
  obtain ⟨t, ht⟩ : ∃ t, L.drop cs.length = [t] := by
    have : (L.drop cs.length).length = 1 := by simp; omega
    exact List.length_eq_one_iff.1 this
  simp [splice, ht]
end Go.Proofs.YtknnoiomdngmfaaGreatDoor.Kit
namespace Go.Proofs.YtknnoiomdngmfaaGreatDoor.Kit
open Go.RowKit Go.Shelf Go.Deep
set_option linter.unusedVariables false
attribute [local go_sem] run_store_func
structure GrowI (S : Nat → Prop) (W wr : World) (v0 v : Value) (out : List LS) : Prop where
  at_ : OutAt S wr v out
  k : Keeps W wr (fun b => v0.ownBlock = some b)
  own : v.ownBlock = v0.ownBlock ∨ ∀ g, v.ownBlock = some g → W.heap.size ≤ g
theorem GrowI.trans {S : Nat → Prop} {W w3 w4 : World} {v0 v3 v4 : Value} {o3 o4 : List LS} (h : GrowI S W w3 v0 v3 o3) (k : GrowI S w3 w4 v3 v4 o4) : GrowI S W w4 v0 v4 o4 := by
  refine ⟨k.at_, h.k.trans k.k fun j hj e => ?_, ?_⟩
  · rcases h.own with h1 | h1
    · exact h1 ▸ e
    have := h1 j e; omega
  have hs := h.k.size
  rcases k.own with h1 | h1
  · rw [h1]; exact h.own
  exact .inr fun g e => by have := h1 g e; omega
theorem grow_join {S : Nat → Prop} {W wr W2 Wx w3 : World} {v0 : Value} {xo yo : Option Addr} {xc yc n : Nat} {o : List LS} {cs : List Value} {x : LS} {G wc : Nat} {fo : Option Addr} {fc : Nat} {ao : Option Addr} {ca D : Nat}
    (hI : GrowI S W wr v0 (.slice xo n xc) o) (hn : n = o.length) (hSX : ∀ b, S b → b < wr.heap.size ∧ (Value.slice xo n xc).ownBlock ≠ some b)
    (hcs : wr.ownsRow 0 88 10 (.slice xo n xc) n cs ∧ ∀ j (h : j < o.length), ∃ wb wc fo fc ao ca, (cs.drop (j * 10)).take 10 = nodeCells o[j] wb wc fo fc ao ca ∧ NodeIn S wr o[j] wb wc fo fc ao ca)
    (k2 : Keeps wr W2 (fun _ => False)) (kx : Keeps W2 Wx (fun _ => False)) (way : W2.ownsRow 0 3 1 (.slice (some ⟨G, 0, none⟩) x.path.length wc) x.path.length (ints x.path))
    (hown' : w3.ownsRow 0 88 10 (.slice yo (n + 1) yc) (n + 1) (cs ++ nodeCells x G wc fo fc ao ca)) (hg : Wx.grownBy w3 (Value.slice xo n xc).ownBlock) (hor : (Value.slice yo (n + 1) yc).ownBlock = (Value.slice xo n xc).ownBlock ∨ ∀ g, (Value.slice yo (n + 1) yc).ownBlock = some g → Wx.heap.size ≤ g)
    (hrow : RowAt S wr (D + 1) ao x.list) (hkids : RowAt S wr D fo x.fld.kids) (hle : x.list.length ≤ ca) (hkle : x.fld.kids.length ≤ fc) (hix : x.idx < x.list.length) :
    GrowI S W w3 v0 (.slice yo (n + 1) yc) (o ++ [x]) ∧ Keeps W2 w3 (fun b => (Value.slice xo n xc).ownBlock = some b) ∧ w3.ownsRow 0 3 1 (.slice (some ⟨G, 0, none⟩) x.path.length wc) x.path.length (ints x.path) ∧ RowAt S w3 D fo x.fld.kids ∧
      (∀ b, S b → b < w3.heap.size ∧ (Value.slice yo (n + 1) yc).ownBlock ≠ some b) := by
  have k3 : Keeps W2 w3 (fun b => (Value.slice xo n xc).ownBlock = some b) := (kx.mono fun _ _ h => h.elim).trans (Keeps.ofGrown hg) fun _ _ h => h
  have kr : Keeps wr w3 (fun b => (Value.slice xo n xc).ownBlock = some b) := (k2.mono fun _ _ h => h.elim).trans k3 fun _ _ h => h
  have hv2 : W2.ownsRow 0 88 10 (.slice xo n xc) n cs := row_kp hcs.1 fun g e => k2.block g (own_lt hcs.1 g e) id
  have way3 := way_kp hv2 way k3
  have kS : KpOf S wr w3 := fun b hb => kr.block b (hSX b hb).1 (hSX b hb).2
  have hI3 : GrowI S wr w3 (.slice xo n xc) (.slice yo (n + 1) yc) (o ++ [x]) := by
    refine ⟨?_, kr, ?_⟩
    · have h1 := hcs.1
      rw [hn] at h1 hown' kr hSX
      rw [hn]
      exact out_snoc h1 hcs.2 kr hSX hown' ⟨way3, ⟨D, hrow.kept kS⟩, ⟨D, hkids.kept kS⟩, hle, hkle, hix⟩
    rcases hor with h | h
    · exact .inl h
    exact .inr fun g e => by have := h g e; have := kx.size; have := k2.size; omega
  refine ⟨hI.trans hI3, k3, way3, hkids.kept kS, fun b hb => ?_⟩
  have h1 := hSX b hb
  have h2 := kr.size
  refine ⟨by omega, fun e => ?_⟩
  rcases hI3.own with h | h
  · exact h1.2 (h ▸ e)
  have := h b e; omega
def GrowR (S : Nat → Prop) (W : World) (v0 : Value) (out : List LS) (e : Ending) (w' : World) : Prop := ∃ vo vc, e = .returned (.slice vo out.length vc) ∧ GrowI S W w' v0 (.slice vo out.length vc) out
theorem grow_any (S : Nat → Prop) (d : Nat) : ∀ (W : World) (ao po vo : Option Addr) (ca pc vc : Nat) (list : List FT) (path : List Nat) (inD : Bool) (out : List LS),
    RowAt S W d ao list → list.length ≤ ca → path.length ≤ 64 → W.ownsRow 0 3 1 (.slice po path.length pc) path.length (ints path) → OutAt S W (.slice vo out.length vc) out → out.length ≤ 257 →
    (∀ b, S b → b < W.heap.size ∧ (Value.slice vo out.length vc).ownBlock ≠ some b) →
    Calls Tryz.prog 51 #[.slice ao list.length ca, .slice po path.length pc, .bool inD, .slice vo out.length vc] W (GrowR S W (.slice vo out.length vc) (grown out (nodesC d list path inD))) := by
  induction d with
  | zero =>
    intro W ao po vo ca pc vc list path inD out hr hca hp hpath ho hol hS
    obtain rfl : list = [] := hr
    have e : grown out (nodesC 0 [] path inD) = out := by simp only [nodesC, grown, List.append_nil]; exact List.take_of_length_le hol
    rw [e]
    have HO : Hid (GrowI S W W (.slice vo out.length vc) (.slice vo out.length vc) out) := ⟨ho, Keeps.refl _ _, .inl rfl⟩
    clear ho hpath hS e
    go_enter Tryz.func51, Tryz.ntmps51
    go_wp2
    go_loopw [3, 14] (fun v p wr => v = .slice vo out.length vc ∧ p = .int .i64 0 ∧ wr = W) (fun _ p _ => 0)
    case atStart => exact ⟨rfl, rfl, rfl⟩
    case round =>
      obtain ⟨rfl, rfl, rfl⟩ := hrel
      go_wp2
      go_ret
      exact ⟨vo, vc, rfl, HO.out⟩
  | succ d ih =>
    intro W ao po vo ca pc vc list path inD out hr hca hp hpath ho hol hS
    have hlen : list.length ≤ 1000000000000 := hr.1
    have HR : Hid (RowAt S W (d + 1) ao list) := hr
    have HP : Hid (W.ownsRow 0 3 1 (.slice po path.length pc) path.length (ints path)) := hpath
    have HO : Hid (OutAt S W (.slice vo out.length vc) out) := ho
    have HS : Hid (∀ b, S b → b < W.heap.size ∧ (Value.slice vo out.length vc).ownBlock ≠ some b) := hS
    have HOL : Hid (out.length ≤ 257) := hol
    have IH : Hid _ := ih
    obtain ⟨L, hL⟩ : ∃ L, L = list.length := ⟨_, rfl⟩
    rw [← hL] at hlen hca ⊢
    have HL : Hid (L = list.length) := hL
    obtain ⟨P, hP⟩ : ∃ P, P = path.length := ⟨_, rfl⟩
    rw [← hP] at hp ⊢
    have HPl : Hid (P = path.length) := hP
    obtain ⟨N, hN⟩ : ∃ N, N = out.length := ⟨_, rfl⟩
    rw [← hN] at hol ⊢
    have HN : Hid (N = out.length) := hN
    obtain ⟨R, hR⟩ : ∃ R, R = grown out (nodesC (d + 1) list path inD) := ⟨_, rfl⟩
    rw [← hR]
    have HRR : Hid (R = grown out (nodesC (d + 1) list path inD)) := hR
    clear hr hpath ho hS ih hL hP hN hR
    go_enter Tryz.func51, Tryz.ntmps51
    go_wp2
    go_loopw [3, 14] (fun v p wr => ∃ (k n : Nat) (xo : Option Addr) (xc : Nat), k ≤ L ∧ n ≤ 257 ∧ p = .int .i64 (k : Int) ∧ v = .slice xo n xc ∧ Hid (n = (grown out (uptoC d list path inD k)).length ∧ GrowI S W wr (.slice vo N vc) (.slice xo n xc) (grown out (uptoC d list path inD k)))) (fun v p _ => L - (intOf p).toNat)
    case atStart =>
      have e : grown out (uptoC d list path inD 0) = out := by rw [uptoC_zero]; simp only [grown, List.append_nil]; exact List.take_of_length_le HOL.out
      refine ⟨0, N, vo, vc, Nat.zero_le _, hol, rfl, rfl, by rw [e]; exact HN.out, ?_⟩
      rw [e]
      have h := HO.out
      rw [← HN.out] at h
      exact ⟨h, Keeps.refl _ _, .inl rfl⟩
    case round =>
      obtain ⟨k, n, xo, xc, hk, hn, rfl, rfl, HX⟩ := hrel
      by_cases hlt : k < L
      · have hl := HL.out
        obtain ⟨b, o, rfl, hSb, hcs⟩ := HR.out.2 (by intro e; rw [e] at hl; simp at hl; omega)
        have hkl : k < list.length := by omega
        obtain ⟨ao', ca', hc, hle', hr'⟩ := hcs k hkl
        have hSS : ∀ b, S b → b < W.heap.size ∧ (Value.slice vo N vc).ownBlock ≠ some b := fun b hb => by have := HS.out b hb; rw [← HN.out] at this; exact this
        have hKS : KpOf S W wr := fun b hb => HX.out.2.k.block b (hSS b hb).1 (hSS b hb).2
        have hc2 := hc.kept (hKS b hSb)
        obtain ⟨f, hf⟩ : ∃ f, f = list[k]'hkl := ⟨_, rfl⟩
        rw [← hf] at hc hc2 hle' hr'
        have HR' : Hid (RowAt S wr d ao' f.kids) := hr'.kept hKS
        have HF : Hid (f = list[k]'hkl) := hf
        obtain ⟨g0, g1, g2, g3, g4, g5, g6⟩ := hc2
        have hltI : (k : Int) < (L : Int) := by omega
        have HSX : Hid (∀ b, S b → b < wr.heap.size ∧ (Value.slice xo n xc).ownBlock ≠ some b) := fun b hb => by
          have h1 := hSS b hb
          have h2 := HX.out.2.k.size
          refine ⟨by omega, fun e => ?_⟩
          rcases HX.out.2.own with h | h
          · exact h1.2 (h ▸ e)
          have := h b e; omega
        have HPw : Hid (wr.ownsRow 0 3 1 (.slice po P pc) P (ints path)) := by
          have h := HO.out
          obtain ⟨cs, hown, _⟩ := h
          have h2 := HP.out
          rw [← HPl.out] at h2
          rw [← HN.out] at hown
          exact way_kp hown h2 HX.out.2.k
        clear hcs hc hr' hKS hf hl hSS
        by_cases hfull : 256 < n
        · have HE : Hid (GrowR S W (.slice vo N vc) R (.returned (.slice xo n xc)) (wr.alloc (.cells #[.string f.name, .bool f.nul, .int .i64 f.kind, .int .i64 f.width, .int .i64 f.id, .int .i64 f.index, .slice ao' f.kids.length ca'] 26))) := by
            have h := HX.out
            have e : R = grown out (uptoC d list path inD k) := by
              rw [HRR.out, nodesC_succ]
              exact grown_full (by rw [← h.1]; exact hfull) (uptoC_prefix d list path inD (by omega))
            refine ⟨xo, xc, by rw [e, ← h.1], ?_⟩
            rw [e, ← h.1]
            exact ⟨h.2.at_.keeps ((Keeps.refl _ _).alloc _) HSX.out, h.2.k.alloc _, h.2.own⟩
          go_wp2
          go_ret
          exact HE.out
        have hmk := run_make_row' (P := Tryz.prog) 44 3 (.int .i64 0) 8 Tryz.underlying44 info3 rfl .i64 .i64 (P + 1) (by omega) (by omega)
        rw [show ((P + 1 : Nat) : Int) = (P : Int) + 1 by omega] at hmk
        obtain ⟨cs, hcs⟩ : ∃ cs : List Value, cs = ints path := ⟨_, rfl⟩
        have HC : Hid (cs = ints path) := hcs
        have hcl : cs.length = P := by rw [hcs, HPl.out]; simp [ints]
        obtain ⟨cur, hcur⟩ : ∃ cur : List Value, cur = (madeCells #[.int .i64 0] (P + 1)).toList := ⟨_, rfl⟩
        have HCur : Hid (cur = (madeCells #[.int .i64 0] (P + 1)).toList) := hcur
        clear hcs hcur
        obtain ⟨F, hF⟩ : ∃ F : Obj, F = .cells #[.string f.name, .bool f.nul, .int .i64 f.kind, .int .i64 f.width, .int .i64 f.id, .int .i64 f.index, .slice ao' f.kids.length ca'] 26 := ⟨_, rfl⟩
        have HFF : Hid (F = .cells #[.string f.name, .bool f.nul, .int .i64 f.kind, .int .i64 f.width, .int .i64 f.id, .int .i64 f.index, .slice ao' f.kids.length ca'] 26) := hF
        clear hF
        go_wp2_with (with_reducible show wpList Tryz.prog _ _ (Oper.mk (some 29) _ _ _ _ _ :: _) _ _; refine wpList_copy_splice rfl (.tmp 27) (.tmp 28) 44 44 rfl 3 Tryz.underlying44 size3 _ _ _ _ _ _ rfl rfl (wr.heap.size + 1) 0 cur 3 ?hg cs ?hn ?hpos ?hfit ?h1 (wr.heap.size + 1) (wr.alloc F) ?hb (Nat.le_refl _) ?_)
        case hg =>
          have h := heap_alloc_new (wr.alloc F) (.cells (madeCells #[.int .i64 0] (P + 1)) 3)
          rw [HFF.out] at h
          rw [HCur.out]; simpa using h
        case hn => rw [hcl]; show P = min _ _; omega
        case hpos =>
          intro hp0
          have hown := HPw.out
          rcases hown.2 with ⟨h, h'⟩ | ⟨g, cap', cur', h, _⟩
          · omega
          simp only [Value.slice.injEq] at h
          refine ⟨⟨g, 0, none⟩, h.1, fun j v hj => ?_⟩
          rw [HC.out] at hj
          have hc := hown.cells (g := g) (by simp [Value.ownBlock, h.1]) j v hj
          exact (((Keeps.refl wr (fun _ => False)).alloc _).alloc _).cell' hc id
        case hfit => rw [hcl, HCur.out]; simp [size_madeCells]
        case h1 =>
          intro v hv
          rw [HC.out] at hv
          obtain ⟨z, _, rfl⟩ := List.mem_map.1 hv
          rfl
        case hb => rw [HFF.out]; exact (Below.refl _ _).alloc (by simp) _
        intro w1 HG1 hB1
        obtain ⟨W2, hW2⟩ := ex (w1.setCell ⟨wr.heap.size + 1, P, none⟩ (.int .i64 (k : Int)))
        have hcul : cur.length = cs.length + 1 := by rw [hcl, HCur.out]; simp [size_madeCells]
        have hown1 : w1.ownsRow 0 3 1 (.slice (some ⟨wr.heap.size + 1, 0, none⟩) (P + 1) (P + 1)) (P + 1) (splice cur 0 cs) := by
          have hsl : (splice cur 0 cs).length = P + 1 := by rw [length_splice _ _ _ (by omega)]; omega
          exact ⟨by omega, .inr ⟨wr.heap.size + 1, P + 1, _, rfl, Nat.zero_le _, HG1.out, Nat.le_refl _, by unfold maxLen; omega, by simp [hsl], by rw [Nat.mul_one]; exact List.take_of_length_le (by simp [hsl])⟩⟩
        have q1 : w1.cell? ⟨wr.heap.size + 1, P, none⟩ ≠ none := by
          rw [hown1.cellAt P (by omega)]
          have hsl : (splice cur 0 cs).length = P + 1 := by rw [length_splice _ _ _ (by omega)]; omega
          simp [hsl]
        obtain ⟨y, q1⟩ := Option.ne_none_iff_exists'.1 q1
        have q2 : w1.frozen? ⟨wr.heap.size + 1, P, none⟩ = false := hown1.frozenAt P
        have k1 : Keeps wr w1 (fun _ => False) := ((Keeps.refl wr _).alloc F).trans (T := fun k => wr.heap.size + 1 ≤ k) (Keeps.ofBelow hB1) (fun j hj h => by omega)
        have k2 : Keeps wr W2 (fun _ => False) := by rw [← hW2]; exact k1.setCell (fun h => absurd h (by simp)) _
        have way : W2.ownsRow 0 3 1 (.slice (some ⟨wr.heap.size + 1, 0, none⟩) (path ++ [k]).length (P + 1)) (path ++ [k]).length (ints (path ++ [k])) := by
          have h := hown1.stored P (.int .i64 (k : Int))
          rw [hW2, show P = cs.length from hcl.symm, splice_front _ _ hcul, hcl, HC.out, ← ints_snoc] at h
          have e : (path ++ [k]).length = P + 1 := by rw [List.length_append, ← HPl.out]; rfl
          rw [e]
          exact h.1
        have hbox : W2.heap[wr.heap.size]? = some F := by
          rw [← hW2, heap_setCell_other w1 _ _ _ (by simp), hB1.block _ (by omega)]
          exact heap_alloc_new wr F
        rw [HFF.out] at hbox
        have HW := hidM (And.intro k2 way)
        have f0 : W2.cell? ⟨wr.heap.size, 0, none⟩ = some (.string f.name) := by simp [World.cell?, hbox]
        have f1 : W2.cell? ⟨wr.heap.size, 1, none⟩ = some (.bool f.nul) := by simp [World.cell?, hbox]
        have f2 : W2.cell? ⟨wr.heap.size, 2, none⟩ = some (.int .i64 f.kind) := by simp [World.cell?, hbox]
        have f3 : W2.cell? ⟨wr.heap.size, 3, none⟩ = some (.int .i64 f.width) := by simp [World.cell?, hbox]
        have f4 : W2.cell? ⟨wr.heap.size, 4, none⟩ = some (.int .i64 f.id) := by simp [World.cell?, hbox]
        have f5 : W2.cell? ⟨wr.heap.size, 5, none⟩ = some (.int .i64 f.index) := by simp [World.cell?, hbox]
        have f6 : W2.cell? ⟨wr.heap.size, 6, none⟩ = some (.slice ao' f.kids.length ca') := by simp [World.cell?, hbox]
        have hkca : (k : Int) ≤ (ca : Int) := by omega
        obtain ⟨cs0, hown0, hc0⟩ := HX.out.2.at_
        rw [← HX.out.1] at hown0
        have hxi : LS.idx ⟨list, path ++ [k], inD⟩ = k := by simp [LS.idx]
        have hxf : LS.fld ⟨list, path ++ [k], inD⟩ = f := by unfold LS.fld; rw [hxi, HF.out]; simp [hkl]
        have hcells : nodeCells ⟨list, path ++ [k], inD⟩ (wr.heap.size + 1) (P + 1) ao' ca' (some ⟨b, o, none⟩) ca = [.slice (some ⟨wr.heap.size + 1, 0, none⟩) (P + 1) (P + 1), .string f.name, .bool f.nul, .int .i64 f.kind, .int .i64 f.width, .int .i64 f.id, .int .i64 f.index, .slice ao' f.kids.length ca', .slice (some ⟨b, o, none⟩) k ca, .bool inD] := by
          unfold nodeCells
          rw [hxf, hxi]
          simp [← HPl.out]
        have hown2 : W2.ownsRow 0 88 10 (.slice xo n xc) n cs0 := row_kp hown0 fun g e => k2.block g (own_lt hown0 g e) id
        have HO2 : Hid (W2.ownsRow 0 88 10 (.slice xo n xc) n cs0) := hown2
        have hrw : RowAt S wr (d + 1) (some ⟨b, o, none⟩) list := HR.out.kept (fun b hb => by
          have h := HS.out b hb
          rw [← HN.out] at h
          exact HX.out.2.k.block b h.1 h.2)
        have HJ : Hid (∀ Wx w3 yo yc, Keeps W2 Wx (fun _ => False) → w3.ownsRow 0 88 10 (.slice yo (n + 1) yc) (n + 1) (cs0 ++ [.slice (some ⟨wr.heap.size + 1, 0, none⟩) (P + 1) (P + 1), .string f.name, .bool f.nul, .int .i64 f.kind, .int .i64 f.width, .int .i64 f.id, .int .i64 f.index, .slice ao' f.kids.length ca', .slice (some ⟨b, o, none⟩) k ca, .bool inD]) → Wx.grownBy w3 (Value.slice xo n xc).ownBlock → ((Value.slice yo (n + 1) yc).ownBlock = (Value.slice xo n xc).ownBlock ∨ ∀ g, (Value.slice yo (n + 1) yc).ownBlock = some g → Wx.heap.size ≤ g) →
            (w3.cell? ⟨wr.heap.size, 2, none⟩ = some (.int .i64 f.kind) ∧ w3.cell? ⟨wr.heap.size, 6, none⟩ = some (.slice ao' f.kids.length ca')) ∧ (GrowI S W w3 (.slice vo N vc) (.slice yo (n + 1) yc) (grown out (uptoC d list path inD k) ++ [(⟨list, path ++ [k], inD⟩ : LS)]) ∧ w3.ownsRow 0 3 1 (.slice (some ⟨wr.heap.size + 1, 0, none⟩) (path ++ [k]).length (P + 1)) (path ++ [k]).length (ints (path ++ [k])) ∧ RowAt S w3 d ao' f.kids ∧ (∀ b, S b → b < w3.heap.size ∧ (Value.slice yo (n + 1) yc).ownBlock ≠ some b))) := by
          intro Wx w3 yo yc kx h1 h2 h3
          rw [← hcells] at h1
          have hkl2 : list.length ≤ ca := by have := HL.out; omega
          obtain ⟨j1, j2, j3, j4, j5⟩ := grow_join (x := ⟨list, path ++ [k], inD⟩) HX.out.2 HX.out.1 HSX.out ⟨hown0, hc0⟩ k2 kx way h1 h2 h3 hrw (by rw [hxf]; exact HR'.out) hkl2 (by rw [hxf]; exact hle') (by rw [hxi]; exact hkl)
          rw [hxf] at j4
          have hng : (Value.slice xo n xc).ownBlock ≠ some wr.heap.size := fun e => by have := own_lt hown0 _ e; omega
          exact ⟨⟨j2.cell' f2 hng, j2.cell' f6 hng⟩, j1, j3, j4, j5⟩
        clear hbox way k1 k2 hown1 hcul HG1 hB1 hmk hc0 hown0 hown2 hrw hcells hxf hxi
        go_wp2
        go_region_law (refine step_append_anyN _ rfl (.tmp 35) (.tmp 43) 85 85 rfl 88 z61 10 136 Tryz.underlying85 info61 c61 _ n cs0 rfl (row_kp HO2.out fun g e => (((Keeps.refl W2 (fun _ => False)).alloc _).drew).block g (own_lt HO2.out g e) id) _ 1 _ rfl (src_node W2 _ rfl _ _ _ _ _ _ _ _ _ _ (by simp [Value.oneCell'])) (by omega) (by omega) ?_; intro v' w3 hown' hgrow hblk; obtain ⟨yo, yc, rfl⟩ := own_formN hown'; obtain ⟨⟨p1, p2⟩, HI3⟩ := HJ.out _ w3 yo yc (((Keeps.refl W2 (fun _ => False)).alloc _).drew) hown' hgrow hblk; replace HI3 := hidM HI3; clear hown' hgrow hblk)
        all_goals
          have hroom : (grown out (uptoC d list path inD k)).length ≤ 256 := by rw [← HX.out.1]; omega
          have hlf : list[k]! = f := by rw [HF.out]; exact getElem!_pos list k hkl
          have hpl : (path ++ [k]).length = P + 1 := by rw [List.length_append, ← HPl.out]; rfl
          have hol1 : (grown out (uptoC d list path inD k) ++ [(⟨list, path ++ [k], inD⟩ : LS)]).length = n + 1 := by rw [List.length_append, ← HX.out.1]; rfl
          clear HJ f0 f1 f3 f4 f5 hW2 q1 q2
          by_cases hdeep : P + 1 ≤ 64
          · have hup : grown out (uptoC d list path inD (k + 1)) = grown (grown out (uptoC d list path inD k) ++ [(⟨list, path ++ [k], inD⟩ : LS)]) (nodesC d f.kids (path ++ [k]) (inD || decide (f.kind = 19))) := by
              rw [grown_step hroom, uptoC_succ, hlf, ← HPl.out, if_pos hdeep]
            have HI2 : Hid (∀ X, X = (inD || decide (f.kind = 19)) → Calls Tryz.prog 51 #[.slice ao' f.kids.length ca', .slice (some ⟨wr.heap.size + 1, 0, none⟩) (P + 1) (P + 1), .bool X, .slice yo (n + 1) yc] w3 (fun e w' => ∃ n' zo zc, n' ≤ 257 ∧ e = .returned (.slice zo n' zc) ∧ Hid (n' = (grown out (uptoC d list path inD (k + 1))).length ∧ GrowI S W w' (.slice vo N vc) (.slice zo n' zc) (grown out (uptoC d list path inD (k + 1)))))) := by
              rintro X rfl
              obtain ⟨i1, i2, i3, i4⟩ := HI3.out
              have h := IH.out w3 ao' (some ⟨wr.heap.size + 1, 0, none⟩) yo ca' (P + 1) yc f.kids (path ++ [k]) (inD || decide (f.kind = 19)) (grown out (uptoC d list path inD k) ++ [(⟨list, path ++ [k], inD⟩ : LS)]) i3 hle' (by rw [hpl]; exact hdeep) i2 (by rw [hol1]; exact i1.at_) (by rw [hol1]; omega) (by rw [hol1]; exact i4)
              rw [hol1, hpl, ← hup] at h
              refine h.mono ?_
              rintro e w' ⟨zo, zc, rfl, hI⟩
              exact ⟨_, zo, zc, grown_le _ _, rfl, rfl, i1.trans hI⟩
            have hdI : (P : Int) + 1 ≤ 64 := by omega
            clear hup hroom hlf hpl hol1 HI3
            go_wp2_with (go_at_call 51; refine Hid.out ?_)
            all_goals
              unfold Hid
              first
                | (have hi := ‹inD = true›; subst hi)
                | (have hi : inD = false := (by simpa using ‹¬ inD = true›); subst hi)
              refine Calls.mono (HI2.out _ (by first | (simp; done) | (simp; rfl))) ?_
              rintro e w4 ⟨n', zo, zc, hn', rfl, H4⟩
              clear HI2 p1 p2 f2 f6
              go_wp2
              go_roundw
              case rel => exact ⟨k + 1, n', zo, zc, by omega, hn', by simp, rfl, H4⟩
              case measure => simp [intOf]; omega
          have HE : Hid (n + 1 = (grown out (uptoC d list path inD (k + 1))).length ∧ GrowI S W w3 (.slice vo N vc) (.slice yo (n + 1) yc) (grown out (uptoC d list path inD (k + 1)))) := by
            have e : grown out (uptoC d list path inD (k + 1)) = grown out (uptoC d list path inD k) ++ [(⟨list, path ++ [k], inD⟩ : LS)] := by
              rw [uptoC_succ, ← HPl.out, if_neg hdeep, grown_one hroom]
            rw [e]
            exact ⟨hol1.symm, HI3.out.1⟩
          have hdI : ¬ ((P : Int) + 1 ≤ 64) := by omega
          clear hroom hlf hpl hol1 HI3
          go_wp2
          go_roundw
          case rel => exact ⟨k + 1, n + 1, yo, yc, by omega, by omega, by simp, rfl, HE.out⟩
          case measure => simp [intOf]; omega
      have hkL : k = L := by omega
      subst hkL
      have HE : Hid (GrowR S W (.slice vo N vc) R (.returned (.slice xo n xc)) wr) := by
        have h := HX.out
        have e : R = grown out (uptoC d list path inD k) := by rw [HRR.out, nodesC_succ, HL.out]
        refine ⟨xo, xc, by rw [e, ← h.1], ?_⟩
        rw [e, ← h.1]
        exact h.2
      go_wp2
      go_ret
      exact HE.out
end Go.Proofs.YtknnoiomdngmfaaGreatDoor.Kit
