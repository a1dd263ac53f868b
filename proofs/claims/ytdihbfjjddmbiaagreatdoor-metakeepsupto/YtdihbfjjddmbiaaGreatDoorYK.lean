import Derived.Test.YtdihbfjjddmbiaaGreatDoorYJ
set_option maxRecDepth 100000
set_option maxHeartbeats 4000000
namespace Go.Proofs.YtdihbfjjddmbiaaGreatDoor.Kit
open Go.RowKit Go.Shelf Go.Deep
set_option linter.unusedVariables false
set_option linter.unusedSimpArgs false
attribute [local go_sem] run_store_func
structure Wd (B q q2 D : Nat) (bx zx : Array Value) (S : Nat → Prop) (fo : Option Addr) (cf : Nat) (fs : List FT) (W : World) (no : Option Addr) (nn nc : Nat) (xn : List Value) (vo : Option Addr) (nv vc : Nat) (xd : List Value) (uo : Option Addr) (nu uc : Nat) (xs : List Value) (u : World) : Prop where
  g : Gr W u
  box : u.heap[q]? = some (.cells bx 29 (0, 0))
  zero : u.heap[q2]? = some (.cells zx 29 (0, 0))
  ql : q < B ∧ q2 < B ∧ W.heap.size ≤ B ∧ B ≤ u.heap.size
  sb' : ∀ b, S b → b < B
  f : RowM S u D fo cf fs
  n : u.ownsRow 0 55 2 (.slice no nn nc) nn xn
  nb : ∀ g, (Value.slice no nn nc).ownBlock = some g → B ≤ g
  d : u.ownsRow 0 44 2 (.slice vo nv vc) nv xd
  db : ∀ g, (Value.slice vo nv vc).ownBlock = some g → B ≤ g
  s : u.ownsRow 0 46 3 (.slice uo nu uc) nu xs
  sb : ∀ g, (Value.slice uo nu uc).ownBlock = some g → B ≤ g
theorem row_other {W : World} {e1 e2 s1 s2 n1 n2 : Nat} {v1 v2 : Value} {x1 x2 : List Value} (h1 : W.ownsRow 0 e1 s1 v1 n1 x1) (h2 : W.ownsRow 0 e2 s2 v2 n2 x2) (he : e1 ≠ e2) (g : Nat) (e : v1.ownBlock = some g) : v2.ownBlock ≠ some g := fun e' => by
  obtain ⟨-, ⟨rfl, -⟩ | ⟨g1, cap, cur, rfl, -, hg, -⟩⟩ := h1
  · simp [Value.ownBlock] at e
  obtain ⟨-, ⟨rfl, -⟩ | ⟨g2, cap2, cur2, rfl, -, hg2, -⟩⟩ := h2
  · simp [Value.ownBlock] at e'
  have a : g1 = g := by simpa [Value.ownBlock] using e
  have b : g2 = g := by simpa [Value.ownBlock] using e'
  subst a b
  rw [hg] at hg2
  simp at hg2
  exact he hg2.2
section
variable {B q q2 D : Nat} {bx zx : Array Value} {S : Nat → Prop} {fo : Option Addr} {cf : Nat} {fs : List FT} {W : World} {no : Option Addr} {nn nc : Nat} {xn : List Value} {vo : Option Addr} {nv vc : Nat} {xd : List Value} {uo : Option Addr} {nu uc : Nat} {xs : List Value} {u : World}
theorem Wd.appN (h : Wd B q q2 D bx zx S fo cf fs W no nn nc xn vo nv vc xd uo nu uc xs u) {A w3 : World} (gA : Gr u A) {no' : Option Addr} {m nc' : Nat} {xn' : List Value} (hown : w3.ownsRow 0 55 2 (.slice no' m nc') m xn') (hgrow : A.grownBy w3 (Value.slice no nn nc).ownBlock) (hnew : (Value.slice no' m nc').ownBlock = (Value.slice no nn nc).ownBlock ∨ ∀ g, (Value.slice no' m nc').ownBlock = some g → A.heap.size ≤ g) :
    Wd B q q2 D bx zx S fo cf fs W no' m nc' xn' vo nv vc xd uo nu uc xs w3 := by
  have kA : Keeps u w3 (fun z => (Value.slice no nn nc).ownBlock = some z) := (gA.mono fun _ _ h => h.elim).tr (Keeps.ofGrown hgrow)
  have hl : ∀ z, z < B → w3.heap[z]? = u.heap[z]? := fun z hz => kA.block z (by have := h.ql; omega) fun e => by have := h.nb z e; omega
  exact ⟨h.g.trans kA fun j hj e => by have := h.nb j e; have := h.ql; omega, (hl q h.ql.1).trans h.box, (hl q2 h.ql.2.1).trans h.zero, ⟨h.ql.1, h.ql.2.1, h.ql.2.2.1, Nat.le_trans h.ql.2.2.2 kA.size⟩, h.sb', h.f.kept fun b hb => hl b (h.sb' b hb), hown, fun g e => hnew.elim (fun p => h.nb g (p ▸ e)) (fun p => by have := p g e; have := gA.size; have := h.ql; omega), row_kp h.d fun g e => kA.block g (own_lt h.d g e) fun e2 => row_other h.d h.n (by decide) g e e2, h.db, row_kp h.s fun g e => kA.block g (own_lt h.s g e) fun e2 => row_other h.s h.n (by decide) g e e2, h.sb⟩
theorem Wd.appD (h : Wd B q q2 D bx zx S fo cf fs W no nn nc xn vo nv vc xd uo nu uc xs u) {A w3 : World} (gA : Gr u A) {vo' : Option Addr} {m vc' : Nat} {xd' : List Value} (hown : w3.ownsRow 0 44 2 (.slice vo' m vc') m xd') (hgrow : A.grownBy w3 (Value.slice vo nv vc).ownBlock) (hnew : (Value.slice vo' m vc').ownBlock = (Value.slice vo nv vc).ownBlock ∨ ∀ g, (Value.slice vo' m vc').ownBlock = some g → A.heap.size ≤ g) :
    Wd B q q2 D bx zx S fo cf fs W no nn nc xn vo' m vc' xd' uo nu uc xs w3 := by
  have kA : Keeps u w3 (fun z => (Value.slice vo nv vc).ownBlock = some z) := (gA.mono fun _ _ h => h.elim).tr (Keeps.ofGrown hgrow)
  have hl : ∀ z, z < B → w3.heap[z]? = u.heap[z]? := fun z hz => kA.block z (by have := h.ql; omega) fun e => by have := h.db z e; omega
  exact ⟨h.g.trans kA fun j hj e => by have := h.db j e; have := h.ql; omega, (hl q h.ql.1).trans h.box, (hl q2 h.ql.2.1).trans h.zero, ⟨h.ql.1, h.ql.2.1, h.ql.2.2.1, Nat.le_trans h.ql.2.2.2 kA.size⟩, h.sb', h.f.kept fun b hb => hl b (h.sb' b hb), row_kp h.n fun g e => kA.block g (own_lt h.n g e) fun e2 => row_other h.n h.d (by decide) g e e2, h.nb, hown, fun g e => hnew.elim (fun p => h.db g (p ▸ e)) (fun p => by have := p g e; have := gA.size; have := h.ql; omega), row_kp h.s fun g e => kA.block g (own_lt h.s g e) fun e2 => row_other h.s h.d (by decide) g e e2, h.sb⟩
theorem Wd.appS (h : Wd B q q2 D bx zx S fo cf fs W no nn nc xn vo nv vc xd uo nu uc xs u) {A w3 : World} (gA : Gr u A) {uo' : Option Addr} {m uc' : Nat} {xs' : List Value} (hown : w3.ownsRow 0 46 3 (.slice uo' m uc') m xs') (hgrow : A.grownBy w3 (Value.slice uo nu uc).ownBlock) (hnew : (Value.slice uo' m uc').ownBlock = (Value.slice uo nu uc).ownBlock ∨ ∀ g, (Value.slice uo' m uc').ownBlock = some g → A.heap.size ≤ g) :
    Wd B q q2 D bx zx S fo cf fs W no nn nc xn vo nv vc xd uo' m uc' xs' w3 := by
  have kA : Keeps u w3 (fun z => (Value.slice uo nu uc).ownBlock = some z) := (gA.mono fun _ _ h => h.elim).tr (Keeps.ofGrown hgrow)
  have hl : ∀ z, z < B → w3.heap[z]? = u.heap[z]? := fun z hz => kA.block z (by have := h.ql; omega) fun e => by have := h.sb z e; omega
  exact ⟨h.g.trans kA fun j hj e => by have := h.sb j e; have := h.ql; omega, (hl q h.ql.1).trans h.box, (hl q2 h.ql.2.1).trans h.zero, ⟨h.ql.1, h.ql.2.1, h.ql.2.2.1, Nat.le_trans h.ql.2.2.2 kA.size⟩, h.sb', h.f.kept fun b hb => hl b (h.sb' b hb), row_kp h.n fun g e => kA.block g (own_lt h.n g e) fun e2 => row_other h.n h.s (by decide) g e e2, h.nb, row_kp h.d fun g e => kA.block g (own_lt h.d g e) fun e2 => row_other h.d h.s (by decide) g e e2, h.db, hown, fun g e => hnew.elim (fun p => h.sb g (p ▸ e)) (fun p => by have := p g e; have := gA.size; have := h.ql; omega)⟩
end
def mks (mk : Nat → List Value) : Nat → List Value
  | 0 => []
  | j + 1 => mks mk j ++ mk j
theorem own_form3 {W : World} {t s n vc : Nat} {vo : Option Addr} {xs : List Value} (h : W.ownsRow 0 t s (.slice vo (n + 3) vc) (n + 3) xs) : ∃ g, vo = some ⟨g, 0, none⟩ ∧ n + 3 ≤ vc := by
  rcases h.2 with ⟨e, h0⟩ | ⟨g, cap, cur, e, h1, h2, h3, h4⟩
  · omega
  cases e
  exact ⟨g, rfl, h3⟩
theorem wide6 {S : Nat → Prop} {D : Nat} {k di rows pr : Int} {dl : Bool} {fo no vo uo : Option Addr} {cf cn vc uc : Nat} {fs : List FT} {ns : List (ByteArray × ByteArray)} {nds : List (Int × Int)} {sls : List (Int × Int × Int)} {W : World} (h : HeadAt S D W fo no vo uo cf fs ns nds sls) :
    Calls Tryz.prog 6 #[.agg #[.int .i64 k, .slice fo fs.length cf, .slice no ns.length cn, .int .i64 di, .bool dl, .int .i64 rows, .int .i64 pr, .slice vo nds.length vc, .slice uo sls.length uc]] W fun e w' => ∃ fo' cf' no' cn' vo' vc' uo' uc', e = .returned (.agg #[.int .i64 k, .slice fo' fs.length cf', .slice no' ns.length cn', .int .i64 di, .bool dl, .int .i64 rows, .int .i64 pr, .slice vo' nds.length vc', .slice uo' sls.length uc']) ∧ Gr W w' ∧ WdR (fun b => W.heap.size ≤ b ∧ b < w'.heap.size) w' D fo' cf' no' cn' vo' vc' uo' uc' fs ns nds sls := by
  have bn : ns.length ≤ 1000000000000 := h.notes.1
  have bd : nds.length ≤ 1000000000000 := h.nodes.1
  have bs : sls.length ≤ 1000000000000 := h.slots.1
  obtain ⟨nf, hnf⟩ : ∃ nf, nf = fs.length := ⟨_, rfl⟩
  obtain ⟨nn, hnn⟩ : ∃ nn, nn = ns.length := ⟨_, rfl⟩
  obtain ⟨nv, hnv⟩ : ∃ nv, nv = nds.length := ⟨_, rfl⟩
  obtain ⟨nu, hnu⟩ : ∃ nu, nu = sls.length := ⟨_, rfl⟩
  obtain ⟨A0, hA0⟩ := ex (W.alloc (.cells #[.int .i64 k, .slice fo nf cf, .slice no nn cn, .int .i64 di, .bool dl, .int .i64 rows, .int .i64 pr, .slice vo nv vc, .slice uo nu uc] 29))
  have g0 := gr_al hA0
  have b0 : A0.heap[W.heap.size]? = some (.cells #[.int .i64 k, .slice fo nf cf, .slice no nn cn, .int .i64 di, .bool dl, .int .i64 rows, .int .i64 pr, .slice vo nv vc, .slice uo nu uc] 29 (0, 0)) := by rw [← hA0]; exact heap_alloc_new W _
  obtain ⟨A1, hA1⟩ := ex (A0.alloc (.cells #[.int .i64 0, .slice none 0 0, .slice none 0 0, .int .i64 0, .bool false, .int .i64 0, .int .i64 0, .slice none 0 0, .slice none 0 0] 29))
  have g1 := gr_al hA1
  have b1 : A1.heap[A0.heap.size]? = some (.cells #[.int .i64 0, .slice none 0 0, .slice none 0 0, .int .i64 0, .bool false, .int .i64 0, .int .i64 0, .slice none 0 0, .slice none 0 0] 29 (0, 0)) := by rw [← hA1]; exact heap_alloc_new A0 _
  have b01 := (g1.block _ (lt_of_heap b0) id).trans b0
  have g01 : Gr W A1 := g0.tr g1
  have HC18 : Hid (Calls Tryz.prog 18 #[.slice fo nf cf] A1 fun e w' => ∃ vo vc, e = .returned (.slice vo nf vc) ∧ Gr A1 w' ∧ RowM (fun b => A1.heap.size ≤ b ∧ b < w'.heap.size) w' D vo vc fs) := by rw [hnf]; exact wide18 S D fo cf fs A1 (h.row.kept fun z hz => g01.block z (h.s z hz) id) fun z hz => Nat.lt_of_lt_of_le (h.s z hz) g01.size
  have c1 := (ce9 b01).2.1
  have HSN : Hid (∀ u, Gr W u → Src Tryz.prog 2 23 (.slice no nn cn) nn (ns.flatMap cN) u) := fun u g => by rw [hnn]; exact srcN (h.notes.gr g)
  have HSD : Hid (∀ u, Gr W u → Src Tryz.prog 2 26 (.slice vo nv vc) nv (nds.flatMap cD) u) := fun u g => by rw [hnv]; exact srcD (h.nodes.gr g)
  have HSS : Hid (∀ u, Gr W u → Src Tryz.prog 3 27 (.slice uo nu uc) nu (sls.flatMap cS) u) := fun u g => by rw [hnu]; exact srcS (h.slots.gr g)
  rw [← hnf, ← hnn, ← hnv, ← hnu]
  rw [← hnn] at bn
  rw [← hnv] at bd
  rw [← hnu] at bs
  have HG := hidM g01
  have HNS := hidM (And.intro hnn (And.intro hnv hnu))
  have HB := hidM (And.intro b01 b1)
  have HQ : Hid (W.heap.size < A0.heap.size ∧ A0.heap.size < A1.heap.size) := ⟨lt_of_heap b0, lt_of_heap b1⟩
  clear hnf hnn hnv hnu g0 g1 g01 b0 b1 b01 h
  go_enter Tryz.func6, Tryz.ntmps6
  go_wp2_with (go_at_call 18; refine HC18.out.mono ?_)
  rintro e w1 ⟨fo', cf', rfl, k1, hrm⟩
  have hb1 := (k1.block _ (lt_of_heap HB.out.1) id).trans HB.out.1
  have hb2 := (k1.block _ (lt_of_heap HB.out.2) id).trans HB.out.2
  have d1 := (ce9 hb1).2.1
  have z1 := frz hb1 1
  obtain ⟨V1, hV1⟩ := ex (w1.setCell ⟨W.heap.size, 1, none⟩ (.slice fo' nf cf'))
  have hb3 : V1.heap[W.heap.size]? = some (.cells #[.int .i64 k, (.slice fo' nf cf'), (.slice no nn cn), .int .i64 di, .bool dl, .int .i64 rows, .int .i64 pr, (.slice vo nv vc), (.slice uo nu uc)] 29 (0, 0)) := by rw [← hV1]; exact heap_setCell_same w1 _ 1 _ _ _ hb1
  have kV : Keeps w1 V1 (fun z => z = W.heap.size) := by rw [← hV1]; exact Keeps.setCell (S := fun z => z = W.heap.size) (p := ⟨W.heap.size, 1, none⟩) (Keeps.refl w1 _) (fun _ => rfl) _
  have HW0 : Hid (Wd w1.heap.size W.heap.size A0.heap.size D #[.int .i64 k, (.slice fo' nf cf'), (.slice no nn cn), .int .i64 di, .bool dl, .int .i64 rows, .int .i64 pr, (.slice vo nv vc), (.slice uo nu uc)] #[.int .i64 0, .slice none 0 0, .slice none 0 0, .int .i64 0, .bool false, .int .i64 0, .int .i64 0, .slice none 0 0, .slice none 0 0] (fun b => A1.heap.size ≤ b ∧ b < w1.heap.size) fo' cf' fs W none (0) 0 ([]) none (0) 0 ([]) none (0) 0 ([]) V1) := by
    have q1 := HQ.out.1
    have q2 := HQ.out.2
    have s1 := k1.size
    have s2 := kV.size
    exact ⟨(HG.out.tr k1).trans kV fun j hj e => by omega, hb3, (kV.block _ (lt_of_heap hb2) (by omega)).trans hb2, ⟨by omega, by omega, by omega, s2⟩, fun b hb => hb.2, hrm.kept fun b hb => kV.block b hb.2 (by omega), World.ownsRow_nil _ _ _ _, fun g e => by simp [Value.ownBlock] at e, World.ownsRow_nil _ _ _ _, fun g e => by simp [Value.ownBlock] at e, World.ownsRow_nil _ _ _ _, fun g e => by simp [Value.ownBlock] at e⟩
  clear k1 hrm hb1 hb2 hb3 kV HB c1
  have c2 := (ce9 HW0.out.box).2.2.1
  have HS2N := hidM (HSN.out V1 HW0.out.g)
  go_wp2_with (at_builtin; refine Hid.out ?_)
  unfold Hid
  refine wpList_append_anyN (P := Tryz.prog) _ rfl (.const (.slice none 0 0)) (.tmp 15) 23 23 rfl 55 (.agg #[.string ⟨#[]⟩, .string ⟨#[]⟩]) 2 32 Tryz.underlying23 info60 rfl (.slice none 0 0) 0 [] rfl (World.ownsRow_nil _ _ _ _) _ nn (ns.flatMap cN) rfl HS2N.out (by omega) (by omega) ?_
  refine Hid.out ?_
  unfold Hid
  intro v' w2 hown hgrow hnew
  rw [Nat.zero_add, List.nil_append] at hown
  obtain ⟨no1, nc1, rfl⟩ := own_formK hown
  have HW1 := hidM (HW0.out.appN (Keeps.refl V1 _) hown hgrow hnew)
  clear hown hgrow hnew c2
  have c7 := (ce9 HW1.out.box).2.2.2.2.2.2.2.1
  have HS2D := hidM (HSD.out w2 HW1.out.g)
  go_wp2_with (at_builtin; refine Hid.out ?_)
  unfold Hid
  refine wpList_append_anyN (P := Tryz.prog) _ rfl (.const (.slice none 0 0)) (.tmp 18) 26 26 rfl 44 (.agg #[.int .i64 0, .int .i64 0]) 2 16 Tryz.underlying26 info62 rfl (.slice none 0 0) 0 [] rfl (World.ownsRow_nil _ _ _ _) _ nv (nds.flatMap cD) rfl HS2D.out (by omega) (by omega) ?_
  refine Hid.out ?_
  unfold Hid
  intro v' w3 hown hgrow hnew
  rw [Nat.zero_add, List.nil_append] at hown
  obtain ⟨vo1, vc1, rfl⟩ := own_formK hown
  have HW2 := hidM (HW1.out.appD (Keeps.refl w2 _) hown hgrow hnew)
  clear hown hgrow hnew c7
  have c8 := (ce9 HW2.out.box).2.2.2.2.2.2.2.2
  have HS2S := hidM (HSS.out w3 HW2.out.g)
  go_wp2_with (at_builtin; refine Hid.out ?_)
  unfold Hid
  refine wpList_append_anyN (P := Tryz.prog) _ rfl (.const (.slice none 0 0)) (.tmp 21) 27 27 rfl 46 (.agg #[.int .i64 0, .int .i64 0, .int .i64 0]) 3 24 Tryz.underlying27 info64 rfl (.slice none 0 0) 0 [] rfl (World.ownsRow_nil _ _ _ _) _ nu (sls.flatMap cS) rfl HS2S.out (by omega) (by omega) ?_
  refine Hid.out ?_
  unfold Hid
  intro v' w4 hown hgrow hnew
  rw [Nat.zero_add, List.nil_append] at hown
  obtain ⟨uo1, uc1, rfl⟩ := own_formK hown
  have HW3 := hidM (HW2.out.appS (Keeps.refl w3 _) hown hgrow hnew)
  clear hown hgrow hnew c8
  go_wp2_with fail
  go_loopw [3, 4, 5, 6] (fun a b c p wr => ∃ (j : Nat) (no1 : Option Addr) (nc1 : Nat) (vo1 : Option Addr) (vc1 : Nat) (uo1 : Option Addr) (uc1 : Nat), j ≤ 3 ∧ p = .int .i64 (j : Int) ∧ a = .slice no1 (nn + j : Nat) nc1 ∧ b = .slice vo1 (nv + j : Nat) vc1 ∧ c = .slice uo1 (nu + j : Nat) uc1 ∧ Hid (Wd w1.heap.size W.heap.size A0.heap.size D #[.int .i64 k, (.slice fo' nf cf'), (.slice no nn cn), .int .i64 di, .bool dl, .int .i64 rows, .int .i64 pr, (.slice vo nv vc), (.slice uo nu uc)] #[.int .i64 0, .slice none 0 0, .slice none 0 0, .int .i64 0, .bool false, .int .i64 0, .int .i64 0, .slice none 0 0, .slice none 0 0] (fun b => A1.heap.size ≤ b ∧ b < w1.heap.size) fo' cf' fs W no1 (nn + j) nc1 (ns.flatMap cN ++ mks mN j) vo1 (nv + j) vc1 (nds.flatMap cD ++ mks mD j) uo1 (nu + j) uc1 (sls.flatMap cS ++ mks mS j) wr)) (fun _ _ _ p _ => 3 - (intOf p).toNat)
  case atStart => exact ⟨0, no1, nc1, vo1, vc1, uo1, uc1, by omega, rfl, rfl, rfl, rfl, by have := HW3.out; show Wd _ _ _ _ _ _ _ _ _ _ _ _ _ _ (_ ++ []) _ _ _ (_ ++ []) _ _ _ (_ ++ []) _; rw [List.append_nil, List.append_nil, List.append_nil]; exact this⟩
  case round =>
    clear HW0 HW1 HW2 HW3
    obtain ⟨j, no1, nc1, vo1, vc1, uo1, uc1, hj, rfl, rfl, rfl, rfl, HW⟩ := hrel
    by_cases hlt : j < 3
    · have hltI : (j : Int) < 3 := by omega
      obtain ⟨B1, hB1⟩ := ex (wr.alloc (.cells #[.string ⟨#[109]⟩, .string ⟨#[109]⟩] 55))
      have gB1 : Gr wr B1 := by rw [← hB1]; exact gr_alloc _ _
      have HON : Hid (B1.ownsRow 0 55 2 (.slice no1 (nn + j) nc1) (nn + j) (ns.flatMap cN ++ mks mN j)) := by rw [← hB1]; exact HW.out.n.alloc _
      have HSN : Hid (Src Tryz.prog 2 23 (.slice (some ⟨wr.heap.size, 0, none⟩) 1 1) 1 [.string ⟨#[109]⟩, .string ⟨#[109]⟩] B1) := by rw [← hB1]; exact src60 wr _ _
      have HGN := hidM gB1
      clear gB1
      go_wp2_with (at_builtin; refine Hid.out ?_)
      unfold Hid
      refine wpList_append_anyN (P := Tryz.prog) _ rfl (.tmp 27) (.tmp 29) 23 23 rfl 55 (.agg #[.string ⟨#[]⟩, .string ⟨#[]⟩]) 2 32 Tryz.underlying23 info60 rfl _ _ _ rfl HON.out _ _ _ rfl HSN.out (by omega) (by omega) ?_
      refine Hid.out ?_
      unfold Hid
      intro v' w5 hown hgrow hnew
      rw [List.append_assoc] at hown
      obtain ⟨no2, nc2, rfl⟩ := own_formK hown
      have HWa := hidM (HW.out.appN HGN.out hown hgrow hnew)
      clear hown hgrow hnew HON HSN
      obtain ⟨B2, hB2⟩ := ex (w5.alloc (.cells #[.int .i64 (-9), .int .i64 (j : Int)] 44))
      have gB2 : Gr w5 B2 := by rw [← hB2]; exact gr_alloc _ _
      have HOD : Hid (B2.ownsRow 0 44 2 (.slice vo1 (nv + j) vc1) (nv + j) (nds.flatMap cD ++ mks mD j)) := by rw [← hB2]; exact HWa.out.d.alloc _
      have HSD : Hid (Src Tryz.prog 2 26 (.slice (some ⟨w5.heap.size, 0, none⟩) 1 1) 1 [.int .i64 (-9), .int .i64 (j : Int)] B2) := by rw [← hB2]; exact src62 w5 _ _
      have HGD := hidM gB2
      clear gB2
      go_wp2_with (at_builtin; refine Hid.out ?_)
      unfold Hid
      refine wpList_append_anyN (P := Tryz.prog) _ rfl (.tmp 31) (.tmp 34) 26 26 rfl 44 (.agg #[.int .i64 0, .int .i64 0]) 2 16 Tryz.underlying26 info62 rfl _ _ _ rfl HOD.out _ _ _ rfl HSD.out (by omega) (by omega) ?_
      refine Hid.out ?_
      unfold Hid
      intro v' w6 hown hgrow hnew
      rw [List.append_assoc] at hown
      obtain ⟨vo2, vc2, rfl⟩ := own_formK hown
      have HWb := hidM (HWa.out.appD HGD.out hown hgrow hnew)
      clear hown hgrow hnew HOD HSD
      obtain ⟨B3, hB3⟩ := ex (w6.alloc (.cells #[.int .i64 (-9), .int .i64 0, .int .i64 (j : Int)] 46))
      have gB3 : Gr w6 B3 := by rw [← hB3]; exact gr_alloc _ _
      have HOS : Hid (B3.ownsRow 0 46 3 (.slice uo1 (nu + j) uc1) (nu + j) (sls.flatMap cS ++ mks mS j)) := by rw [← hB3]; exact HWb.out.s.alloc _
      have HSS : Hid (Src Tryz.prog 3 27 (.slice (some ⟨w6.heap.size, 0, none⟩) 1 1) 1 [.int .i64 (-9), .int .i64 0, .int .i64 (j : Int)] B3) := by rw [← hB3]; exact src64 w6 _ _ _
      have HGS := hidM gB3
      clear gB3
      go_wp2_with (at_builtin; refine Hid.out ?_)
      unfold Hid
      refine wpList_append_anyN (P := Tryz.prog) _ rfl (.tmp 36) (.tmp 39) 27 27 rfl 46 (.agg #[.int .i64 0, .int .i64 0, .int .i64 0]) 3 24 Tryz.underlying27 info64 rfl _ _ _ rfl HOS.out _ _ _ rfl HSS.out (by omega) (by omega) ?_
      refine Hid.out ?_
      unfold Hid
      intro v' w7 hown hgrow hnew
      rw [List.append_assoc] at hown
      obtain ⟨uo2, uc2, rfl⟩ := own_formK hown
      have HWc := hidM (HWb.out.appS HGS.out hown hgrow hnew)
      clear hown hgrow hnew HOS HSS
      go_wp2_with fail
      go_roundw
      case rel => exact ⟨j + 1, no2, nc2, vo2, vc2, uo2, uc2, by omega, by simp, rfl, rfl, rfl, HWc.out⟩
      case measure => simp [intOf]; omega
    have hj3 : j = 3 := by omega
    subst hj3
    obtain ⟨gn, rfl, ln⟩ := own_form3 HW.out.n
    obtain ⟨gd, rfl, ld⟩ := own_form3 HW.out.d
    obtain ⟨gs, rfl, ls⟩ := own_form3 HW.out.s
    have ln2 : (nn : Int) ≤ (nc1 : Int) := by omega
    have ld2 : (nv : Int) ≤ (vc1 : Int) := by omega
    have ls2 : (nu : Int) ≤ (uc1 : Int) := by omega
    have c2 := (ce9 HW.out.box).2.2.1
    have z2 := frz HW.out.box 2
    obtain ⟨P1, hP1⟩ := ex (wr.setCell ⟨W.heap.size, 2, none⟩ (.slice (some ⟨gn, 0, none⟩) nn nc1))
    have bP1 : P1.heap[W.heap.size]? = some (.cells #[.int .i64 k, (.slice fo' nf cf'), (.slice (some ⟨gn, 0, none⟩) nn nc1), .int .i64 di, .bool dl, .int .i64 rows, .int .i64 pr, (.slice vo nv vc), (.slice uo nu uc)] 29 (0, 0)) := by rw [← hP1]; exact heap_setCell_same wr _ 2 _ _ _ HW.out.box
    have c7 := (ce9 bP1).2.2.2.2.2.2.2.1
    have z7 := frz bP1 7
    obtain ⟨P2, hP2⟩ := ex (P1.setCell ⟨W.heap.size, 7, none⟩ (.slice (some ⟨gd, 0, none⟩) nv vc1))
    have bP2 : P2.heap[W.heap.size]? = some (.cells #[.int .i64 k, (.slice fo' nf cf'), (.slice (some ⟨gn, 0, none⟩) nn nc1), .int .i64 di, .bool dl, .int .i64 rows, .int .i64 pr, (.slice (some ⟨gd, 0, none⟩) nv vc1), (.slice uo nu uc)] 29 (0, 0)) := by rw [← hP2]; exact heap_setCell_same P1 _ 7 _ _ _ bP1
    have c8 := (ce9 bP2).2.2.2.2.2.2.2.2
    have z8 := frz bP2 8
    obtain ⟨P3, hP3⟩ := ex (P2.setCell ⟨W.heap.size, 8, none⟩ (.slice (some ⟨gs, 0, none⟩) nu uc1))
    have bP3 : P3.heap[W.heap.size]? = some (.cells #[.int .i64 k, (.slice fo' nf cf'), (.slice (some ⟨gn, 0, none⟩) nn nc1), .int .i64 di, .bool dl, .int .i64 rows, .int .i64 pr, (.slice (some ⟨gd, 0, none⟩) nv vc1), (.slice (some ⟨gs, 0, none⟩) nu uc1)] 29 (0, 0)) := by rw [← hP3]; exact heap_setCell_same P2 _ 8 _ _ _ bP2
    have kP : Keeps wr P3 (fun z => z = W.heap.size) := by
      rw [← hP3, ← hP2, ← hP1]
      exact ((Keeps.setCell (S := fun z => z = W.heap.size) (p := ⟨W.heap.size, 2, none⟩) (Keeps.refl wr _) (fun _ => rfl) _).setCell (p := ⟨W.heap.size, 7, none⟩) (fun _ => rfl) _).setCell (p := ⟨W.heap.size, 8, none⟩) (fun _ => rfl) _
    have bz := (kP.block _ (lt_of_heap HW.out.zero) (by have := HQ.out.1; omega)).trans HW.out.zero
    obtain ⟨p0, p1, p2, p3, p4, p5, p6, p7, p8⟩ := ce9 bP3
    obtain ⟨y0, y1, y2, y3, y4, y5, y6, y7, y8⟩ := fz9 bz
    obtain ⟨t0, t1, t2, t3, t4, t5, t6, t7, t8⟩ := ce9 bz
    have hb9 := put9_box (.int .i64 k) (.slice fo' nf cf') (.slice (some ⟨gn, 0, none⟩) nn nc1) (.int .i64 di) (.bool dl) (.int .i64 rows) (.int .i64 pr) (.slice (some ⟨gd, 0, none⟩) nv vc1) (.slice (some ⟨gs, 0, none⟩) nu uc1) bz
    have k9 := put9_keeps P3 A0.heap.size (.int .i64 k) (.slice fo' nf cf') (.slice (some ⟨gn, 0, none⟩) nn nc1) (.int .i64 di) (.bool dl) (.int .i64 rows) (.int .i64 pr) (.slice (some ⟨gd, 0, none⟩) nv vc1) (.slice (some ⟨gs, 0, none⟩) nu uc1)
    have HK9 := hidM (And.intro hb9 (And.intro k9 kP))
    clear hb9 k9 kP bP1 bP2 bP3 bz
    go_wp2_with fail
    (try simp only [Exit.inBlock, Exit.then])
    obtain ⟨hb9, k9, kP⟩ := HK9.out
    have q1 := HQ.out.1
    have q2 := HQ.out.2
    have hql := HW.out.ql
    have kE := (kP.mono (T := fun z => z = W.heap.size ∨ z = A0.heap.size) fun _ _ h => .inl h).trans k9 (fun _ _ h => .inr h)
    have gE : Gr W _ := HW.out.g.trans kE fun j hj e => by rcases e with e | e <;> omega
    have hk : ∀ b, w1.heap.size ≤ b → b < wr.heap.size → _ := fun b b1 b2 => kE.block b b2 (by omega)
    have hN := row_kp HW.out.n fun g e => kE.block g (own_lt HW.out.n g e) (by have := HW.out.nb g e; omega)
    have hD := row_kp HW.out.d fun g e => kE.block g (own_lt HW.out.d g e) (by have := HW.out.db g e; omega)
    have hS := row_kp HW.out.s fun g e => kE.block g (own_lt HW.out.s g e) (by have := HW.out.sb g e; omega)
    refine bodyPost_ret (results_cell30 rfl rfl hb9 (by kernel_rfl)) rfl ⟨fo', cf', _, nc1, _, vc1, _, uc1, rfl, gE, ⟨(HW.out.f.kept fun b hb => kE.block b (by omega) (by omega)).mono fun b hb => ⟨by omega, Nat.lt_of_lt_of_le (by omega) kE.size⟩, LMk.of HNS.out.1 (fun _ => rfl) (fun _ => rfl) hN fun g e => by have := HW.out.nb g e; omega, LMk.of HNS.out.2.1 (fun _ => rfl) (fun _ => rfl) hD fun g e => by have := HW.out.db g e; omega, LMk.of HNS.out.2.2 (fun _ => rfl) (fun _ => rfl) hS fun g e => by have := HW.out.sb g e; omega⟩⟩
end Go.Proofs.YtdihbfjjddmbiaaGreatDoor.Kit
