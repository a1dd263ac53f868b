import Derived.Test.YteppfammimbmcaaDoorV
namespace Go.Proofs.YteppfammimbmcaaDoor.Kit
open Go.RowKit Go.Shelf Go.Deep
set_option linter.unusedVariables false

attribute [local go_sem] Oper.semAt_some

theorem runs_neg (ao : Option Addr) (n ca : Nat) (fr m : Int) (h : fr < 0 ∨ m < 0) (w : World) :
    Calls Tryd.prog 17 #[.slice ao n ca, .int .i64 fr, .int .i64 m] w fun e w' => e = .returned (.func (.func 45) #[] #[]) ∧ w = w' := by
  go_enter Tryd.func17, Tryd.ntmps17
  go_wp2_with (go_at_call 44; refine (refused_neg ao n ca fr m _ h).mono ?_; rintro e w' ⟨rfl, rfl⟩)
  go_ret
  exact ⟨rfl, rfl⟩
theorem runs_range (ao : Option Addr) (n ca : Nat) (hn : n ≤ 1152921504606846975) (fr m : Nat) (hfr : fr ≤ 9223372036854775807) (hm : m ≤ 9223372036854775807) (h : 8 * n < fr + m) (w : World) :
    Calls Tryd.prog 17 #[.slice ao n ca, .int .i64 fr, .int .i64 m] w fun e w' => e = .returned (.func (.func 45) #[] #[]) ∧ w = w' := by
  go_enter Tryd.func17, Tryd.ntmps17
  go_wp2_with (go_at_call 44; refine (refused_range ao n ca hn fr m hfr hm h _).mono ?_; rintro e w' ⟨rfl, rfl⟩)
  go_ret
  exact ⟨rfl, rfl⟩
theorem runs_bad (v : Value) (l : List Nat) (fr m : Int) (hfr : i64 fr) (hm : i64 m) (w : World) (hA : MapAt w v l) (he : ¬ errOf l.length fr m = 0) :
    Calls Tryd.prog 17 #[v, .int .i64 fr, .int .i64 m] w fun e w' => e = .returned (.func (.func 45) #[] #[]) ∧ w = w' := by
  obtain ⟨⟨ao, ca, rfl, hb, hc1, hc2⟩, hl, hlen⟩ := hA
  refine ways (P := fun fr m => ¬ errOf l.length fr m = 0 → Calls Tryd.prog 17 #[.slice ao l.length ca, .int .i64 fr, .int .i64 m] w fun e w' => e = .returned (.func (.func 45) #[] #[]) ∧ w = w') l.length (fun fr m h _ => runs_neg ao l.length ca fr m h w) (fun fr m h1 h2 h _ => runs_range ao l.length ca (by omega) fr m h1 h2 h w) (fun fr m h he => absurd (errOf_ok h) he) fr m hfr hm he
theorem runs_good (v : Value) (l : List Nat) (fr m : Int) (hfr : i64 fr) (hm : i64 m) (w : World) (hT : Tab w) (hA : MapAt w v l) (he : errOf l.length fr m = 0) :
    Calls Tryd.prog 17 #[v, .int .i64 fr, .int .i64 m] w fun e w' => ∃ u, e = .returned u ∧ Iter w w' u (fromL l fr) m.toNat := by
  obtain ⟨⟨ao, ca, rfl, hb, hc1, hc2⟩, hl, hlen⟩ := hA
  refine ways (P := fun fr m => errOf l.length fr m = 0 → Calls Tryd.prog 17 #[.slice ao l.length ca, .int .i64 fr, .int .i64 m] w fun e w' => ∃ u, e = .returned u ∧ Iter w w' u (fromL l fr) m.toNat) l.length (fun fr m h he => ?_) (fun fr m h1 h2 h he => ?_) (fun fr m h he => ?_) fr m hfr hm he
  · rw [errOf_neg h] at he; exact absurd he (by decide)
  · rw [errOf_range h] at he; exact absurd he (by decide)
  · exact runs_ok ao ca l hl hlen hc1 hc2 fr m h w hT hb

/-! ### the numbers of a reply under way -/
def NumsAt (W : World) (B base : Nat) (nums : List Int) : Prop :=
  ∃ v, W.heap[B]? = some (.cells #[.int .i64 0, .int .i64 0, .bool false, .slice none 0 0, .slice none 0 0, v] 28 (0, 0)) ∧ W.ownsRow 0 3 1 v nums.length (cellsI nums) ∧ ∀ g, v.ownBlock = some g → base ≤ g
theorem NumsAt.start {W : World} {B : Nat} (h : Zero6 W B) (base : Nat) : NumsAt W B base [] := ⟨_, h, own_nil W 3, fun g hg => by simp [Value.ownBlock] at hg⟩
theorem NumsAt.open {W : World} {B base : Nat} {nums : List Int} (h : NumsAt W B base nums) : ∃ ao cap, W.heap[B]? = some (.cells #[.int .i64 0, .int .i64 0, .bool false, .slice none 0 0, .slice none 0 0, .slice ao nums.length cap] 28 (0, 0)) ∧ W.ownsRow 0 3 1 (.slice ao nums.length cap) nums.length (cellsI nums) ∧ (∀ g, (Value.slice ao nums.length cap).ownBlock = some g → base ≤ g) ∧
    W.cell? ⟨B, 5, none⟩ = some (.slice ao nums.length cap) ∧ W.frozen? ⟨B, 5, none⟩ = false := by
  obtain ⟨v, h1, h2, h3⟩ := h
  obtain ⟨ao, cap, rfl⟩ := own_form h2
  exact ⟨ao, cap, h1, h2, h3, by rw [cell_of_row W B 5 _ _ _ h1]; rfl, frozen_of_row W B 5 _ _ h1⟩
theorem row_ne {w : World} {t t' p : Nat} {v : Value} {n : Nat} {xs : List Value} {cs : Array Value} (hty : t ≠ t') (hp : w.heap[p]? = some (.cells cs t (0, 0))) (hown : w.ownsRow 0 t' 1 v n xs) : v.ownBlock ≠ some p := by
  intro e
  rcases hown.2 with ⟨rfl, _⟩ | ⟨g, cap, cur, rfl, _, hgg, _⟩
  · simp [Value.ownBlock] at e
  · simp [Value.ownBlock] at e
    subst e
    rw [hp] at hgg
    simp at hgg
    exact hty hgg.2
theorem NumsAt.appended {W w1 : World} {B base : Nat} {nums news : List Int} {v v' : Value} {n' : Nat} {ys : List Value} {o : Obj} (hv : W.heap[B]? = some (.cells #[.int .i64 0, .int .i64 0, .bool false, .slice none 0 0, .slice none 0 0, v] 28 (0, 0))) (hown : W.ownsRow 0 3 1 v nums.length (cellsI nums)) (hb : ∀ g, v.ownBlock = some g → base ≤ g) (hsz : base ≤ W.heap.size)
    (W' : World) (hW' : Keeps W W' (fun _ => False)) (hWo : KeepsOthers W W') (hown' : w1.ownsRow 0 3 1 v' n' ys) (hn : n' = (nums ++ news).length) (hy : ys = cellsI (nums ++ news)) (hgrow : W'.grownBy w1 v.ownBlock) (hblk : v'.ownBlock = v.ownBlock ∨ ∀ g, v'.ownBlock = some g → W'.heap.size ≤ g) :
    w1.cell? ⟨B, 5, none⟩ = some v ∧ w1.frozen? ⟨B, 5, none⟩ = false ∧ NumsAt (w1.setCell ⟨B, 5, none⟩ v') B base (nums ++ news) ∧ Keeps W (w1.setCell ⟨B, 5, none⟩ v') (fun k => k = B ∨ base ≤ k) ∧ KeepsOthers W (w1.setCell ⟨B, 5, none⟩ v') := by
  subst hn hy
  have hne := row_ne (by decide) hv hown
  have hv' : W'.heap[B]? = some (.cells #[.int .i64 0, .int .i64 0, .bool false, .slice none 0 0, .slice none 0 0, v] 28 (0, 0)) := (hW'.block B (Array.getElem?_eq_some_iff.1 hv).1 id).trans hv
  have hv1 : w1.heap[B]? = some (.cells #[.int .i64 0, .int .i64 0, .bool false, .slice none 0 0, .slice none 0 0, v] 28 (0, 0)) := (hgrow.block B (Array.getElem?_eq_some_iff.1 hv').1 (fun e => hne e.symm)).trans hv'
  have hne' := row_ne (by decide) hv1 hown'
  have k1 : Keeps w1 (w1.setCell ⟨B, 5, none⟩ v') (fun k => k = B) := (Keeps.refl w1 (fun k => k = B)).setCell (p := ⟨B, 5, none⟩) (fun _ => rfl) _
  refine ⟨by rw [cell_of_row w1 B 5 _ _ _ hv1]; rfl, frozen_of_row w1 B 5 _ _ hv1, ⟨v', ?_, own_kept hown' k1 (fun g hg e => hne' (by rw [hg, e])), fun g hg => ?_⟩, ?_, ?_⟩
  · have := heap_setCell_same w1 B 5 _ 28 v' hv1
    simpa using this
  · rcases hblk with e | e
    · exact hb g (e.symm.trans hg)
    · have := e g hg; have := hW'.size; omega
  · exact ((hW'.mono (fun _ _ h => h.elim)).trans ((Keeps.ofGrown hgrow).mono (T := fun k => k = B ∨ base ≤ k) fun j _ e => .inr (hb j e)) fun _ _ h => h).trans k1 fun j _ e => .inl e
  · refine (hWo.trans (KeepsOthers.of_grownBy hgrow fun j o ej hj => ?_)).trans (KeepsOthers.setCell _ _ _)
    rcases (own_kept hown hW' fun _ _ => id).2 with ⟨rfl, _⟩ | ⟨g, cap, cur, rfl, _, hgb, _⟩
    · simp [Value.ownBlock] at ej
    · obtain rfl : g = j := by simpa [Value.ownBlock] using ej
      rw [hgb] at hj; cases hj; rfl
theorem cells_turn {W W' : World} {row : Option Nat} {B Bd : Nat} {cs : Array Value} {t : TypeId} {fz : Nat × Nat} (h : W.heap[B]? = some (.cells cs t fz)) (hg : W.grownBy W' row) (hr : ∀ r, row = some r → Bd ≤ r ∧ ∃ o : Obj, W.heap[r]? = some o ∧ o.isCells = false) : W'.heap[B]? = some (.cells cs t fz) := by
  refine (hg.block B (Array.getElem?_eq_some_iff.1 h).1 fun e => ?_).trans h
  obtain ⟨_, o, ho, hc⟩ := hr B e.symm
  rw [h] at ho
  cases ho
  simp [Obj.isCells] at hc
theorem own_turn {W W' : World} {row : Option Nat} {Bd t s n : Nat} {v : Value} {xs : List Value} (h2 : W.ownsRow 0 t s v n xs) (hg : W.grownBy W' row) (hr : ∀ r, row = some r → Bd ≤ r ∧ ∃ o : Obj, W.heap[r]? = some o ∧ o.isCells = false) : W'.ownsRow 0 t s v n xs := by
  refine ⟨h2.1, ?_⟩
  rcases h2.2 with hn | ⟨g, cap, cur, rfl, hb', hgg, rest⟩
  · exact .inl hn
  · exact .inr ⟨g, cap, cur, rfl, hb', cells_turn hgg hg hr, rest⟩
theorem RepAt.turn {W W' : World} {row : Option Nat} {base Bd : Nat} {rv : Value} {r : Rep} (h : RepAt base W rv r) (hg : W.grownBy W' row) (hr : ∀ r, row = some r → Bd ≤ r ∧ ∃ o : Obj, W.heap[r]? = some o ∧ o.isCells = false) : RepAt base W' rv r := by
  obtain ⟨v1, v2, v3, e, h1, h2, h3, h4⟩ := h
  exact ⟨v1, v2, v3, e, own_turn h1 hg hr, own_turn h2 hg hr, own_turn h3 hg hr, h4⟩
theorem NumsAt.turn {W W' : World} {row : Option Nat} {B base Bd : Nat} {nums : List Int} (h : NumsAt W B base nums) (hg : W.grownBy W' row) (hr : ∀ r, row = some r → Bd ≤ r ∧ ∃ o : Obj, W.heap[r]? = some o ∧ o.isCells = false) : NumsAt W' B base nums := by
  obtain ⟨v, h1, h2, h3⟩ := h
  refine ⟨v, cells_turn h1 hg hr, ⟨h2.1, ?_⟩, h3⟩
  rcases h2.2 with hn | ⟨g, cap, cur, rfl, hb', hgg, rest⟩
  · exact .inl hn
  · exact .inr ⟨g, cap, cur, rfl, hb', cells_turn hgg hg hr, rest⟩
theorem src_two (w : World) (a b : Int) : Src Tryd.prog 1 26 (.slice (some ⟨w.heap.size, 0, none⟩) 2 2) 2 [.int .i64 a, .int .i64 b] (w.alloc (.cells #[.int .i64 a, .int .i64 b] 3)) := by
  refine Src.ofSlice _ Tryd.underlying26 _ _ _ _ rfl ?_ (by simp [Value.oneCell'])
  intro j v hj
  match j, hj with
  | 0, hj => simp at hj; subst hj; simp [Addr.add]
  | 1, hj => simp at hj; subst hj; simp [Addr.add]
theorem src_two_drew (w : World) (a b : Int) : Src Tryd.prog 1 26 (.slice (some ⟨w.heap.size, 0, none⟩) 2 2) 2 [.int .i64 a, .int .i64 b] (w.alloc (.cells #[.int .i64 a, .int .i64 b] 3)).drew := by
  refine Src.ofSlice _ Tryd.underlying26 _ _ _ _ rfl ?_ (by simp [Value.oneCell'])
  intro j v hj
  match j, hj with
  | 0, hj => simp at hj; subst hj; simp [Addr.add]
  | 1, hj => simp at hj; subst hj; simp [Addr.add]
theorem info3 : (Tryd.prog.info? 3).map (fun i => (i.zero, i.size, i.bytes)) = some (some (.int .i64 0), 1, 8) := by kernel_rfl
/-- the law of append within a fence -/
theorem wpListIn_append_any {F : Fence} {nn : Nat} {P : Program} (w : World) {ops : Array Oper} {rest : List Oper} {o : Oper} {a : Act} {Q : Exit → Act → World → Prop} (hgd : o.guard = none) (s x : Operand) (t tx : TypeId)
    (ho : o.op = .call { callee := .builtin .append, args := #[s, x], argTypes := #[t, tx] })
    (e : TypeId) (z : Value) (bytes : Nat) (ht : P.underlying t = some (.slice e)) (hinfo : (P.info? e).map (fun i => (i.zero, i.size, i.bytes)) = some (some z, 1, bytes)) (hzs : z.cells.size = 1)
    (v : Value) (n : Nat) (xs : List Value) (hv : a.eval s = v) (hown : w.ownsRow 0 e 1 v n xs) (y : Value) (m : Nat) (news : List Value) (hx : a.eval x = y) (hs : Src P 1 tx y m news w)
    (h63 : n + m ≤ 9223372036854775807) (hbytes : (n + m) * bytes ≤ 140737488355328)
    (h : ∀ v' w', w'.ownsRow 0 e 1 v' (n + m) (xs ++ news) → w.grownBy w' v.ownBlock → (v'.ownBlock = v.ownBlock ∨ ∀ g, v'.ownBlock = some g → w.heap.size ≤ g) → wpListIn F nn P ops Q rest (a.put o.dst v') w') :
    wpListIn F nn P ops Q (o :: rest) a w := by
  refine wpListIn_plain hgd fun K hK' => ?_
  obtain ⟨i, hi, hzz⟩ := Option.map_eq_some_iff.1 hinfo
  simp only [Prod.mk.injEq] at hzz
  obtain ⟨hz, hsz, hb⟩ := hzz
  obtain ⟨v', w', hr, h2, h3, h4⟩ := run_append_any (P := P) w t tx o.type e i z bytes ht hi hz hsz hb hzs v n xs hown y m news hs h63 hbytes
  unfold Oper.wpIn
  refine ⟨?_, ?_⟩
  · simp [Oper.about, ho, resolve, Target.leads, Sem.run_pure]
  · rw [Oper.semAt_plain F _ _ (by rw [ho]; intro c hc'; cases hc')]
    simp [execOp, ho, resolve, invoke, builtin, hv, hx, hr, Result.andThen]
    exact hK' _ _ (h v' w' h2 h3 h4)
def numsM (l : List (Nat × Nat)) : List Int := l.flatMap fun x => [((min x.1 1000000000 : Nat) : Int), ((min x.2 1000000000 : Nat) : Int)]
theorem numsM_snoc (l : List (Nat × Nat)) (x : Nat × Nat) : numsM (l ++ [x]) = numsM l ++ [((min x.1 1000000000 : Nat) : Int), ((min x.2 1000000000 : Nat) : Int)] := by simp [numsM]
theorem numsM_length (l : List (Nat × Nat)) : (numsM l).length = 2 * l.length := by
  induction l with
  | nil => rfl
  | cons a l ih => simp [numsM] at ih ⊢; omega
theorem numsM_eq {l : List (Nat × Nat)} (h : ∀ r ∈ l, r.1 ≤ 1000000000 ∧ r.2 ≤ 1000000000) : numsM l = numsOf l := by
  induction l with
  | nil => rfl
  | cons a l ih =>
    have h1 := h a (by simp)
    have h2 := ih fun r hr => h r (by simp [hr])
    simp only [numsM, numsOf, List.flatMap_cons] at h2 ⊢
    rw [h2, Nat.min_eq_left h1.1, Nat.min_eq_left h1.2]
end Go.Proofs.YteppfammimbmcaaDoor.Kit
