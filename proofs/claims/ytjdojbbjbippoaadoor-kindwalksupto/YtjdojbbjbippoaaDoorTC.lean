import Derived.Test.YtjdojbbjbippoaaDoorQA
import Derived.Test.YtjdojbbjbippoaaDoorTB
import Derived.Test.YtjdojbbjbippoaaDoorTD
import Derived.Test.YtjdojbbjbippoaaDoorLQ
namespace Go.Proofs.YtjdojbbjbippoaaDoor.Kit
open Go.RowKit Go.Shelf Go.Deep
set_option linter.unusedVariables false
attribute [local go_sem] Oper.semAt_some run_store_func

/-! ### what Walk's iterator gives -/
structure WEl where
  path : List Nat
  f : FT
  wo : Option Addr
  wc : Nat
  fo : Option Addr
  fc : Nat
  d : Nat
  lo : Nat
  mid : Nat
  hi : Nat
def encW (x : WEl) : Array Value := #[.slice x.wo x.path.length x.wc, .agg #[.string x.f.name, .bool x.f.nul, .int .i64 x.f.kind, .int .i64 x.f.width, .int .i64 x.f.id, .int .i64 x.f.index, .slice x.fo x.f.kids.length x.fc]]
structure AtW (N : Nat) (O : Nat → Prop) (M : Nat) (x : WEl) (V : World) : Prop where
  way : V.ownsRow 0 3 1 (.slice x.wo x.path.length x.wc) x.path.length (ints x.path)
  wn : ∀ g, (Value.slice x.wo x.path.length x.wc).ownBlock = some g → x.mid ≤ g ∧ g < x.hi
  row : Tr V x.d x.lo x.mid x.fo x.fc x.f.kids
  bn : N ≤ x.lo ∧ x.lo ≤ x.mid ∧ x.mid ≤ x.hi ∧ x.hi ≤ V.heap.size
  no : ∀ b, x.lo ≤ b → b < x.hi → ¬ O b
  ap : M ≤ x.lo
  deep : x.path.length ≤ big
  ne : x.path ≠ []
def WM (xs : List WEl) (ls : List LS) : Prop := xs.map (fun x => (x.path, x.f)) = ls.map (fun s => (s.path, s.fld))
theorem WM.snoc {xs : List WEl} {ls : List LS} {x : WEl} {s : LS} (h : WM xs ls) (e1 : x.path = s.path) (e2 : x.f = s.fld) : WM (xs ++ [x]) (ls ++ [s]) := by
  unfold WM at h ⊢
  simp [h, e1, e2]
theorem AtW.kept {N : Nat} {O : Nat → Prop} {M : Nat} {x : WEl} {A B : World} {T : Nat → Prop} (h : AtW N O M x A) (k : Keeps A B T) (hT : ∀ b, T b → b < N ∨ O b) : AtW N O M x B := by
  have hn : ∀ b, x.lo ≤ b → b < x.hi → B.heap[b]? = A.heap[b]? := fun b h1 h2 => k.block b (by have := h.bn; omega) fun t => by
    have h3 := h.bn
    rcases hT b t with h4 | h4
    · omega
    · exact h.no b h1 h2 h4
  have h3 := h.bn
  exact ⟨row_kp h.way fun g e => hn g (by have := h.wn g e; omega) (h.wn g e).2, h.wn, h.row.kept fun b h1 h2 => hn b h1 (by omega), ⟨h3.1, h3.2.1, h3.2.2.1, Nat.le_trans h3.2.2.2 k.size⟩, h.no, h.ap, h.deep, h.ne⟩
/-- the blocks that Walk's own loop has -/
def Own (O : Nat → Prop) (z : Nat) (b : Nat) : Prop := O b ∨ b = z ∨ b = z + 1 ∨ b = z + 2 ∨ b = z + 3
structure WI (z : Nat) (yv : Value) (J : (Nat → Prop) → Nat → List WEl → World → Prop) (O : Nat → Prop) (pre : List Spot) (V : World) : Prop where
  o : ∀ b, O b → z + 4 ≤ b ∧ b < V.heap.size
  y : V.heap[z]? = some (.cells #[yv] 57)
  zl : z + 4 ≤ V.heap.size
  j : ∃ xs M, WM xs (pre.map Spot.ls) ∧ M ≤ V.heap.size ∧ J (Own O z) M xs V
theorem WI.step {z : Nat} {yv : Value} {J : (Nat → Prop) → Nat → List WEl → World → Prop} (hJ : ∀ M, JAbides (fun O => J O M)) {O O' : Nat → Prop} {pre : List Spot} {A B : World} (h : WI z yv J O pre A) {T : Nat → Prop} (k : Keeps A B T) (hT : ∀ b, T b → Own O z b ∧ b ≠ z) (hO' : ∀ b, O' b → b < B.heap.size ∧ (O b ∨ A.heap.size ≤ b)) : WI z yv J O' pre B := by
  refine ⟨fun b hb => ⟨(hO' b hb).2.elim (fun h' => (h.o b h').1) fun h' => by have := h.zl; omega, (hO' b hb).1⟩, (k.block z (by have := h.zl; omega) fun t => (hT z t).2 rfl).trans h.y, Nat.le_trans h.zl k.size, ?_⟩
  obtain ⟨xs, M, hm, hy, hj⟩ := h.j
  refine ⟨xs, M, hm, Nat.le_trans hy k.size, hJ _ _ _ _ _ _ hj (k.mono fun b _ t => (hT b t).1) fun b hb => ?_⟩
  rcases hb with hb | hb
  · exact ⟨(hO' b hb).1, (hO' b hb).2.elim (fun h' => .inl (.inl h')) .inr⟩
  · exact ⟨by have := h.zl; have := k.size; omega, .inl (.inr hb)⟩
/-- what a spot's field is -/
theorem SpotF.is {w : World} {x : Spot} {f : FT} {b o i m : Nat} {ao' : Option Addr} {ca' : Nat} (h : SpotF w x f b o i m ao' ca') {p : List Nat} (hp : x.path = p ++ [i]) : x.ls.fld = f := by
  unfold LS.fld LS.idx Spot.ls
  simp [hp, h.fe]

set_option maxRecDepth 100000 in
set_option maxHeartbeats 4000000 in
theorem walk1_seq (n K : Nat) (hn : 1 ≤ n) (S : Nat → Prop) (D : Nat) (ao : Option Addr) (ca : Nat) (list : List FT) (w : World) (hK : w.cell? ⟨K, 0, none⟩ = some (.slice ao list.length ca)) (hr : RowAt S w D ao list) (hca : list.length ≤ ca) (hD : D ≤ big) (hS : ∀ b, S b → b < w.heap.size) :
    SeqM n Tryd.prog 23 #[.pointer (some ⟨K, 0, none⟩)] encW (fun N O M x V => AtW N O M x V) S (fun xs => WM xs (nodes D list [] false)) (fun pre => ∃ ls, ls <+: nodes D list [] false ∧ WM pre ls) w := by
  intro l J Jx W hW hJ hL hY h0
  have hlK : W.cell? ⟨K, 0, none⟩ = some (.slice ao list.length ca) := hW.cell' hK id
  have hKl : K < W.heap.size := block_lt_of_cell hlK
  have hSl : ∀ b, S b → b < W.heap.size := fun b h => Nat.lt_of_lt_of_le (hS b h) hW.size
  have hrW : RowAt S W D ao list := hr.kept fun b h => hW.block b (hS b h) id
  obtain ⟨z, hz⟩ : ∃ z, z = W.heap.size := ⟨_, rfl⟩
  obtain ⟨yv, hyv⟩ : ∃ yv, yv = Value.func (.yield l) #[] #[] := ⟨_, rfl⟩
  obtain ⟨W2, hW2⟩ : ∃ W2, W.alloc (.cells #[.func (.yield l) #[] #[]] 57) = W2 := ⟨_, rfl⟩
  obtain ⟨W4, hW4⟩ : ∃ W4, W2.alloc (.cells #[.slice ao list.length ca] 22) = W4 := ⟨_, rfl⟩
  have hz2 : W2.heap.size = z + 1 := by rw [← hW2, hz]; simp
  have hz4 : W4.heap.size = z + 2 := by rw [← hW4]; simp [hz2]
  have hk4 : Keeps W W4 (fun _ => False) := by rw [← hW4, ← hW2]; exact ((Keeps.refl W _).alloc _).alloc _
  have q2 : W2.cell? ⟨K, 0, none⟩ = some (.slice ao list.length ca) := by rw [← hW2]; exact (gr_alloc W _).cell' hlK id
  have hy4 : W4.heap[z]? = some (.cells #[.func (.yield l) #[] #[]] 57) := by
    rw [← hW4, ← hW2, hz]
    exact (Below.heap_alloc _ _ _ (by simp)).trans (World.alloc_heap_new W _)
  have hv : W4.cell? ⟨z + 1, 0, none⟩ = some (.slice ao list.length ca) := by rw [← hW4, ← hz2]; exact cell_new W2 _ 22
  have hseq := (each1_seq (n - 1) (z + 1) S D ao ca list W4 hv (hrW.kept fun b h => hk4.block b (hSl b h) id) hca hD (fun b h => by have := hSl b h; have := hk4.size; omega)).new
  have hcop : ∀ (d : Nat) (V : World) (ko : Option Addr) (kc : Nat) (f : FT), RowAt S V d ko f.kids → (∀ b, S b → b < V.heap.size) → Calls Tryd.prog 26 #[.agg #[.int .i64 f.kind, .int .i64 f.width, .int .i64 f.id, .int .i64 f.index, .slice ko f.kids.length kc]] V fun e w' => ∃ vo vc, e = .returned (.agg #[.int .i64 f.kind, .int .i64 f.width, .int .i64 f.id, .int .i64 f.index, .slice vo f.kids.length vc]) ∧ CopT V d f.kids.length f.kids vo vc w' := fun d V ko kc f h1 h2 =>
    copiedType_T _ _ _ _ _ _ _ d _ V fun V' g => copied_Tr d S V' ko kc f.kids (h1.kept fun b hb => g.block b (h2 b hb) id) (fun b hb => by have := h2 b hb; have := g.size; omega)
  have HCop := hidM hcop
  have HS := hidM hSl
  have HJ := hidM hJ
  have HLx := hidM hL
  have HY := hidM hY
  have H0 := hidM h0
  have HY4 := hidM hy4
  have HK4 := hidM hk4
  have HZ := hidM hz
  clear hW hK hr hlK hKl hrW hv hk4 hy4 hcop hJ hL hY h0 hSl
  refine callsIn_of_wp_marks Tryd.func23 rfl trivial ?_ rfl
  simp only [Tryd.ntmps23, List.size_toArray, List.length_cons, List.length_nil, Nat.reduceAdd, Nat.reduceSub, Array.replicate_succ, Array.replicate_zero, List.push_toArray, List.append_toArray, List.nil_append, List.cons_append]
  refine wpIn_wide.2 ?_
  go_wp2_with (go_at_call 24; refine Hid.out ?_)
  unfold Hid
  try rw [hW2]
  refine (each_any _ ao list.length ca rfl W2).mono ?_
  rintro e V4 ⟨rfl, hV4⟩
  rw [hW4] at hV4
  subst hV4
  rw [hz2, ← hz]
  clear hW2 q2 hW4 hz2 hz
  go_wp2_with fail
  refine (wpIn_wide (n := n)).1 ?_
  refine rangeY hn (gf := 39) (lb := #[.pointer (some ⟨z + 1, 0, none⟩)]) rfl (enters_of Tryd.func39 (by kernel_rfl) rfl) hseq (fun _ => rfl) (fun b h => by have := HS.out b h; have := HK4.out.size; omega)
    (fun O pre x A B h hA hO k => ⟨h.row.kept fun b hb => k.block b (by have := HS.out b hb; have := HZ.out; omega) (fun e => by have := HS.out b hb; have := HZ.out; omega), h.le, h.ix, own_kp h.way fun g e => k.block g (by cases e; exact (hO _ h.wO).2) (fun e' => by cases e; have h1 := (hO _ h.wO).1; change x.wb = _ at e'; omega), h.wO, h.deep⟩)
    (WI z (.func (.yield l) #[] #[]) J) (fun O O' pre A B h hA hO k hO' => h.step HJ.out k (fun b hb => ⟨.inl hb, by have := (hO b hb).1; omega⟩) hO')
    (fun O pre A B h k => h.step HJ.out k (fun b hb => ⟨.inr (.inr (.inr (by omega))), by omega⟩) (fun b hb => ⟨Nat.lt_of_lt_of_le (h.o b hb).2 k.size, .inl hb⟩))
    (fun O c pre V => c = .ret ∧ ∃ xs, WM xs (pre.map Spot.ls) ∧ Jx (Own O z) xs V)
    (fun O c pre A B ⟨e, xs, hm, hx⟩ k => ⟨e, xs, hm, HLx.out _ _ _ _ hx (k.mono fun b _ hb => hb.elim .inl fun hb => .inr (.inr (.inr (by omega))))⟩)
    (fun V k hs => ⟨fun _ h => h.elim, (k.block z (by omega) id).trans HY4.out, by omega, [], W.heap.size, rfl, by have := k.size; have := HK4.out.size; omega, HJ.out _ _ _ _ _ _ H0.out (HK4.out.trans k (fun _ _ h => h)) (fun b hb => by
      have e := HZ.out
      rcases hb with hb | hb
      · exact hb.elim
      · exact ⟨by omega, .inr (by omega)⟩)⟩)
    (fun x a' V => ∃ Bx, V.heap[Bx]? = some (.cells #[.slice x.ao x.list.length x.ca, .slice (some ⟨x.wb, 0, none⟩) x.path.length x.wc, .bool x.inD] 62) ∧ z + 4 ≤ Bx ∧
      a' = { tmps := #[.func (.yield l) #[] #[], .pointer (some ⟨K, 0, none⟩), .pointer (some ⟨z, 0, none⟩), .pointer (some ⟨Bx, 0, none⟩), undef, .slice ao list.length ca, .func (.func 39) #[] #[.pointer (some ⟨z + 1, 0, none⟩)], .agg #[.slice x.ao x.list.length x.ca, .slice (some ⟨x.wb, 0, none⟩) x.path.length x.wc, .bool x.inD], undef, undef, undef, undef, undef, undef, undef, undef, undef, undef, undef, undef, undef], defers := [] })
    (fun x a' Y Z h hk => by
      obtain ⟨Bx, h1, h3, h4⟩ := h
      exact ⟨Bx, (hk.block Bx (lt_of_heap h1) (fun e => by omega)).trans h1, h3, h4⟩)
    ?assign ?body ?done ?stop
  case assign =>
    intro l x V K hz hK
    unfold encS
    gi_wp2
    refine hK _ _ (gr_alloc V _) ⟨V.heap.size, World.alloc_heap_new V _, by omega, rfl⟩
  case body =>
    rintro ll O pre x a' V hi hat ⟨Bx, hbx, hBx, rfl⟩ hO hzV
    obtain ⟨f, fb, fo', fi, fm, ao', ca', hf, hle, hrow, hSb, hpi⟩ := hat.f
    have hfld := field_any x f fb fo' fi fm ao' ca' V hf
    have HFL : Hid (Calls Tryd.prog 25 #[.agg #[.slice x.ao x.list.length x.ca, .slice (some ⟨x.wb, 0, none⟩) x.path.length x.wc, .bool x.inD]] V fun e w' => e = .returned (.agg #[.string f.name, .bool f.nul, .int .i64 f.kind, .int .i64 f.width, .int .i64 f.id, .int .i64 f.index, .slice ao' f.kids.length ca']) ∧ Gr V w') := hfld
    obtain ⟨b0, b1, b2⟩ := cell3 hbx
    have HB := hidM hbx
    have HI := hidM hi
    have HAT := hidM hat
    clear hfld hi hat hseq hbx
    gi_wp2_with fail
    refine ⟨trivial, fun h => (by cases h), CallsIn.mono (CallsIn.inRound ll (callsIn_wide.2 HFL.out)) ?_⟩
    rintro e v1 ⟨rfl, hg1⟩
    clear b0 b1 b2
    obtain ⟨v2, hv2⟩ : ∃ v2, v1.alloc (.cells #[.string f.name, .bool f.nul, .int .i64 f.kind, .int .i64 f.width, .int .i64 f.id, .int .i64 f.index, .slice ao' f.kids.length ca'] 38) = v2 := ⟨_, rfl⟩
    have hF2 : v2.heap[v1.heap.size]? = some (.cells #[.string f.name, .bool f.nul, .int .i64 f.kind, .int .i64 f.width, .int .i64 f.id, .int .i64 f.index, .slice ao' f.kids.length ca'] 38) := by rw [← hv2]; exact World.alloc_heap_new v1 _
    have hg2 : Gr V v2 := by rw [← hv2]; exact hg1.alloc _
    obtain ⟨_, c0, c1, c2, c3, c4, c5, c6⟩ := bx7 (w := V) ⟨hg2, hF2⟩
    have HF2 := hidM (And.intro hg2 (And.intro hF2 hg1.size))
    have hcp := HCop.out x.d v2 ao' ca' f (hrow.kept fun b hb => hg2.block b (by have := HS.out b hb; have := HZ.out; omega) id) (fun b hb => by have := HS.out b hb; have := HZ.out; have := hg2.size; omega)
    have HCP := hidM hcp
    clear hcp hF2 hg2 hg1 HFL
    gi_wp2_with fail
    refine ⟨trivial, fun h => (by cases h), CallsIn.mono (CallsIn.inRound ll (callsIn_wide.2 HCP.out)) ?_⟩
    rintro e v3 ⟨vo, vc, rfl, hq⟩
    clear c0 c1 c2 c3 c4 c5 c6 HCP hv2
    obtain ⟨hg2, hF2, hXV⟩ := HF2.out
    generalize v1.heap.size = X at *
    have hF3 := (hq.g.block X (lt_of_heap hF2) id).trans hF2
    obtain ⟨_, c0, c1, c2, c3, c4, c5, c6⟩ := bx7 (w := V) ⟨hg2.trans hq.g (fun _ _ h => h), hF3⟩
    have f2 := frz hF3 2
    have f3 := frz hF3 3
    have f4 := frz hF3 4
    have f5 := frz hF3 5
    have f6 := frz hF3 6
    obtain ⟨v4, hv4⟩ : ∃ v4, ((((v3.setCell ⟨X, 2, none⟩ (.int .i64 f.kind)).setCell ⟨X, 3, none⟩ (.int .i64 f.width)).setCell ⟨X, 4, none⟩ (.int .i64 f.id)).setCell ⟨X, 5, none⟩ (.int .i64 f.index)).setCell ⟨X, 6, none⟩ (.slice vo f.kids.length vc) = v4 := ⟨_, rfl⟩
    have hF4 : v4.heap[X]? = some (.cells #[.string f.name, .bool f.nul, .int .i64 f.kind, .int .i64 f.width, .int .i64 f.id, .int .i64 f.index, .slice vo f.kids.length vc] 38) := by
      rw [← hv4, setc (j := 6) (setc (j := 5) (setc (j := 4) (setc (j := 3) (setc (j := 2) hF3 _) _) _) _) _]
      simp
    have hk4 : Keeps v3 v4 (fun b => b = X) := by rw [← hv4]; exact keep1 (j := 6) (keep1 (j := 5) (keep1 (j := 4) (keep1 (j := 3) (keep1 (j := 2) (Keeps.refl v3 (fun b => b = X)) _) _) _) _) _
    have hgV4 : Gr V v4 := (hg2.trans hq.g (fun _ _ h => h)).trans hk4 (fun j hj e => by omega)
    -- what is held of the world behind the stores
    have hY4 : v4.heap[z]? = some (.cells #[.func (.yield l) #[] #[]] 57) := (hgV4.block z (by have := HI.out.zl; omega) id).trans HI.out.y
    have hB4 := (hgV4.block Bx (lt_of_heap HB.out) id).trans HB.out
    have HV4 := hidM (And.intro hgV4 (And.intro hF4 (And.intro hY4 (And.intro hB4 (And.intro hq (And.intro hk4 (And.intro hXV (And.intro (lt_of_heap hF2) hg2))))))))
    obtain ⟨_, d0, d1, d2, d3, d4, d5, d6⟩ := bx7 (w := V) ⟨hgV4, hF4⟩
    have y0 : v4.cell? ⟨z, 0, none⟩ = some (.func (.yield l) #[] #[]) := cell1 hY4
    obtain ⟨e0, e1, e2⟩ := cell3 hB4
    have hVX : ∀ U, Gr v4 U → U.cell? ⟨z, 0, none⟩ = some (.func (.yield l) #[] #[]) ∧ U.cell? ⟨X, 0, none⟩ = some (.string f.name) ∧ U.cell? ⟨X, 1, none⟩ = some (.bool f.nul) ∧ U.cell? ⟨X, 2, none⟩ = some (.int .i64 f.kind) ∧ U.cell? ⟨X, 3, none⟩ = some (.int .i64 f.width) ∧ U.cell? ⟨X, 4, none⟩ = some (.int .i64 f.id) ∧ U.cell? ⟨X, 5, none⟩ = some (.int .i64 f.index) ∧ U.cell? ⟨X, 6, none⟩ = some (.slice vo f.kids.length vc) := fun U g =>
      ⟨g.cell' y0 id, g.cell' d0 id, g.cell' d1 id, g.cell' d2 id, g.cell' d3 id, g.cell' d4 id, g.cell' d5 id, g.cell' d6 id⟩
    have HVX := hidM hVX
    have HCL : Hid (∀ U, Gr v4 U → Calls Tryd.prog 27 #[.slice (some ⟨x.wb, 0, none⟩) x.path.length x.wc] U fun e w' => ∃ wo wc, e = .returned (.slice wo x.path.length wc) ∧ w'.ownsRow 0 3 1 (.slice wo x.path.length wc) x.path.length (ints x.path) ∧ Gr U w' ∧ (∀ g, (Value.slice wo x.path.length wc).ownBlock = some g → U.heap.size ≤ g)) := fun U g => by
      have gU := HV4.out.1.trans g (fun _ _ h => h)
      exact clone_any x.wb _ x.wc x.path rfl HAT.out.deep U (row_kp HAT.out.way fun q e => gU.block q (own_lt HAT.out.way q e) id)
    have HYY : Hid (∀ U U0 wo wc, Gr v4 U0 → Gr U0 U → U.ownsRow 0 3 1 (.slice wo x.path.length wc) x.path.length (ints x.path) → (∀ g, (Value.slice wo x.path.length wc).ownBlock = some g → U0.heap.size ≤ g) →
        YieldAt (Fence.wide.inRound ll) (n - 1 - 1 - 1) Tryd.prog l #[.slice wo x.path.length wc, .agg #[.string f.name, .bool f.nul, .int .i64 f.kind, .int .i64 f.width, .int .i64 f.id, .int .i64 f.index, .slice vo f.kids.length vc]] U fun e W' =>
          ∃ r : Bool, e = .returned (.bool r) ∧ Hid (Left S O (z + 2) V W' ∧ (r = true → WI z (.func (.yield l) #[] #[]) J O (pre ++ [x]) W') ∧ (r = false → ∃ xs, WM xs ((pre ++ [x]).map Spot.ls) ∧ Jx (Own O z) xs W'))) := fun U U0 wo wc g0 g1 hw hnew => by
      obtain ⟨hgV4, hF4, hY4, hB4, hq, hk4, hXV, hXl, hg2'⟩ := HV4.out
      have g4U : Gr v4 U := g0.trans g1 (fun _ _ h => h)
      have gVU : Gr V U := hgV4.trans g4U (fun _ _ h => h)
      obtain ⟨xs, M, hm, hyx, hj⟩ := HI.out.j
      have hzl := HI.out.zl
      have hez := HZ.out
      have hsz4 := hgV4.size
      have hsz0 := g0.size
      have hszU := g4U.size
      have hown : ∀ b, Own O z b → b < V.heap.size := fun b hb => by
        rcases hb with hb | hb
        · exact (HI.out.o b hb).2
        · omega
      have hjU : J (Own O z) M xs U := HJ.out _ _ _ _ _ _ hj (gVU.mono fun _ _ h => h.elim) fun b hb => ⟨by have := hown b hb; have := gVU.size; omega, .inl hb⟩
      have hX2 := hq.g.size
      have hx2 := hq.g.size
      have hatU : AtW W.heap.size (Own O z) M ⟨x.path, f, wo, wc, vo, vc, x.d, v2.heap.size, v3.heap.size, U.heap.size⟩ U := by
        have hs2 := hg2'.size
        have hs3 := hk4.size
        refine ⟨hw, fun g e => ⟨by have := hnew g e; show v3.heap.size ≤ g; omega, own_lt hw g e⟩, ?_, ⟨by show W.heap.size ≤ v2.heap.size; omega, hx2, by show v3.heap.size ≤ U.heap.size; omega, Nat.le_refl _⟩, fun b h1 h2 ho => by have := hown b ho; have h1' : v2.heap.size ≤ b := h1; omega, Nat.le_trans hyx hs2, HAT.out.deep, by obtain ⟨pp, ii, hpp, _⟩ := HAT.out.ix; show x.path ≠ []; rw [hpp]; simp⟩
        exact hq.row.kept fun b h1 h2 => (g4U.block b (by omega) id).trans (hk4.block b h2 fun e => by omega)
      have hy := yieldRound (m' := n - 1 - 1 - 1) (l' := ll) (HY.out _ _ _ _ U hjU hatU)
      refine hy.mono ?_
      rintro e W' ⟨⟨hkp, hsz⟩, h⟩
      have hkV : ∀ b, (S b ∨ Own O z b) → W'.heap[b]? = V.heap[b]? := fun b hb => (hkp b hb).trans (gVU.block b (hb.elim (fun h => by have := HS.out b h; omega) (hown b)) id)
      have hleft : Left S O (z + 2) V W' := ⟨fun b hb => hkV b (by
        rcases hb with hb | hb | hb | hb
        · exact .inl hb
        · exact .inr (.inl hb)
        · exact .inr (.inr (.inr (.inr (.inl (by omega)))))
        · exact .inr (.inr (.inr (.inr (.inr (by omega)))))), by have := gVU.size; omega⟩
      have hmm : WM (xs ++ [⟨x.path, f, wo, wc, vo, vc, x.d, v2.heap.size, v3.heap.size, U.heap.size⟩]) ((pre ++ [x]).map Spot.ls) := by
        rw [List.map_append]
        obtain ⟨pp, hpp⟩ := hpi
        exact hm.snoc rfl (hf.is hpp).symm
      rcases h with ⟨rfl, hj'⟩ | ⟨rfl, hx'⟩
      · refine ⟨true, rfl, hleft, fun _ => ⟨fun b hb => ⟨(HI.out.o b hb).1, by have := (HI.out.o b hb).2; have := gVU.size; omega⟩, (hkV z (.inr (.inr (.inl rfl)))).trans HI.out.y, by have := gVU.size; omega, _, _, hmm, Nat.le_refl _, hj'⟩, fun h => by cases h⟩
      · exact ⟨false, rfl, hleft, (fun h => by cases h), fun _ => ⟨_, hmm, hx'⟩⟩
    clear hF2 hF3 hF4 hk4 hY4 hB4 hq hg2 hVX
    have hmix : Tryd.prog.follows .mixedOrders = true := by kernel_rfl
    gi_wp2_with fail
    gi_region_with_o (first
      | (refine ⟨trivial, fun h => (by cases h), ?_⟩; gi_at_call 27; refine CallsIn.mono (CallsIn.inRound ll (callsIn_wide.2 (HCL.out _ (by first | exact Keeps.refl _ _ | exact gr_drew)))) ?_; rintro e v5 ⟨wo, wc, rfl, ho, hg5, hnew⟩; obtain ⟨z0, z1, z2, z3, z4, z5, z6, z7⟩ := HVX.out v5 (by first | exact hg5 | exact (gr_drew).trans hg5 (fun _ _ h => h)); obtain ⟨fn, tm, asn, bdy, hy, hR⟩ := HYY.out v5 _ wo wc (by first | exact gr_drew | exact Keeps.refl _ _) hg5 ho hnew; clear ho hg5 hnew)
      | (refine ⟨fun h => (by cases h), hR.mono ?_⟩; rintro e v6 ⟨r, rfl, hr⟩))
    all_goals
      cases r
      · have hA := hidM (And.intro hr.out.1 (hr.out.2.2 rfl))
        clear hr
        gi_wp2
        first
          | exact ⟨hA.out.1, rfl, hA.out.2⟩
          | (rw [hz4]; exact ⟨hA.out.1, rfl, hA.out.2⟩)
      · have hA := hidM (And.intro hr.out.1 (hr.out.2.1 rfl))
        clear hr
        gi_wp2
        first
          | exact ⟨hA.out.1, hA.out.2⟩
          | (rw [hz4]; exact ⟨hA.out.1, hA.out.2⟩)
  case done =>
    rintro O xs V hx hi hzV hd
    have hfin : ∃ O' M' xs', WM xs' (nodes D list [] false) ∧ J O' M' xs' (V.putObj V4.heap.size (.deferred none)) := by
      have h2 := hi.step HJ.out (O' := O) (keeps_put V V4.heap.size (.deferred none)) (fun b hb => ⟨.inr (.inr (.inr (.inl (by omega)))), by omega⟩) (fun b hb => ⟨by simpa using (hi.o b hb).2, .inl hb⟩)
      obtain ⟨ys, M, hm, _, hj⟩ := h2.j
      rw [hx] at hm
      exact ⟨_, M, ys, hm, hj⟩
    have HFin := hidM hfin
    clear hfin hi hx
    go_wp2_with fail
    refine ⟨by simp, .inl ⟨_, _, rfl, run_takeDeferred hd, ?_⟩⟩
    refine ⟨.tuple #[], ?_, ⟨_, rfl⟩, .inl HFin.out⟩
    simp [results, Tryd.f23, go_sem]
  case stop =>
    rintro O c pre V hp ⟨rfl, xs, hm, hx⟩ hzV hd
    have HFin : Hid (∃ O' pre', (∃ ls, ls <+: nodes D list [] false ∧ WM pre' ls) ∧ Jx O' pre' (V.putObj V4.heap.size (.deferred none))) :=
      ⟨_, xs, ⟨_, hp.2, hm⟩, HLx.out _ _ _ _ hx ((keeps_put V V4.heap.size (.deferred none)).mono fun b _ hb => .inr (.inr (.inr (.inl (by omega)))))⟩
    clear hm hx hp
    gi_wp2
    refine ⟨by simp, .inl ⟨_, _, rfl, run_takeDeferred hd, ?_⟩⟩
    refine ⟨.tuple #[], ?_, ⟨_, rfl⟩, .inr HFin.out⟩
    simp [results, Tryd.f23, go_sem]
end Go.Proofs.YtjdojbbjbippoaaDoor.Kit
