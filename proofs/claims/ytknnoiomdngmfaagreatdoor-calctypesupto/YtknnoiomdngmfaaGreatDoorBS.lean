import Derived.Test.YtknnoiomdngmfaaGreatDoorBR
set_option maxRecDepth 100000
set_option maxHeartbeats 4000000
namespace Go.Proofs.YtknnoiomdngmfaaGreatDoor.Kit
open Go.RowKit Go.Shelf Go.Deep
set_option linter.unusedVariables false
set_option linter.unusedSimpArgs false
attribute [local go_sem] run_store_func
def C8 (u : World) (p b : Nat) (nu : Bool) (fo : Option Addr) (fc : Nat) (vn : Bool) (x : Int) (xo : Option Addr) (xc : Nat) : Prop := u.cell? ⟨p, 0, none⟩ = some (.string nmA) ∧ u.cell? ⟨p, 1, none⟩ = some (.bool nu) ∧ u.cell? ⟨p, 2, none⟩ = some (.int .i64 3) ∧ u.cell? ⟨p, 3, none⟩ = some (.int .i64 0) ∧ u.cell? ⟨p, 4, none⟩ = some (.int .i64 0) ∧ u.cell? ⟨p, 5, none⟩ = some (.int .i64 0) ∧ u.cell? ⟨p, 6, none⟩ = some (.slice fo 0 fc) ∧ u.cell? ⟨b, 0, none⟩ = some (.bool vn) ∧ u.cell? ⟨b, 1, none⟩ = some (.int .i64 x) ∧ u.cell? ⟨b, 2, none⟩ = some (.string ⟨#[]⟩) ∧ u.cell? ⟨b, 3, none⟩ = some (.slice xo 0 xc)
theorem c8 {u : World} {p b : Nat} {nu : Bool} {fo : Option Addr} {fc n t : Nat} {rows : Int} {vn : Bool} {x : Int} {xo : Option Addr} {xc : Nat} (hp : u.heap[p]? = some (.cells (bdC nu fo fc n t rows) 149)) (hb : u.heap[b]? = some (.cells #[.bool vn, .int .i64 x, .string ⟨#[]⟩, .slice xo 0 xc] 98)) : C8 u p b nu fo fc vn x xo xc := by
  obtain ⟨q0, q1, q2, q3⟩ := cell4 hb
  refine ⟨?_, ?_, ?_, ?_, ?_, ?_, ?_, q0, q1, q2, q3⟩ <;> simp [World.cell?, hp, bdC]
def AddA (B : Nat) (W : World) (p n m t : Nat) (nu : Bool) (fo : Option Addr) (fc : Nat) (rows wt : Int) (L : Nat) (bs xs : List Value) (vn : Bool) (x : Int) (e : Ending) (w' : World) : Prop :=
  if fitN nu 3 vn x = true then e = .returned (.int .i64 0) ∧ FrD B W w' ∧ w'.heap[p]? = some (.cells (bdC nu fo fc n t (rows + 1)) 149) ∧ ∃ vo' vc' lo' lc', Nd B w' n m t nu (wt + 16) vo' (L + 1) vc' (bs ++ [.bool !vn]) lo' lc' (xs ++ [.int .i64 x])
  else e = .returned (.int .i64 7) ∧ Gr W w'
theorem add8 (B p n m t : Nat) (nu : Bool) (fo : Option Addr) (fc : Nat) (rows : Int) (wt : Int) (vo : Option Addr) (L vc : Nat) (bs : List Value) (lo : Option Addr) (lc : Nat) (xs : List Value) (vn : Bool) (x : Int) (xo : Option Addr) (xc : Nat) (W : World) (hT : Tab W) (hp : W.heap[p]? = some (.cells (bdC nu fo fc n t rows) 149)) (h : Nd B W n m t nu wt vo L vc bs lo lc xs) (hB : B ≤ W.heap.size) (hBp : B ≤ p) (hL : L ≤ 4000) (hw : 0 ≤ wt ∧ wt ≤ 1000000) (hr : 0 ≤ rows ∧ rows ≤ 100000) :
    Calls Tryz.prog 70 #[.pointer (some ⟨p, 0, none⟩), .agg #[.bool vn, .int .i64 x, .string ⟨#[]⟩, .slice xo 0 xc]] W (AddA B W p n m t nu fo fc rows wt L bs xs vn x) := by
  obtain ⟨A, hA⟩ := ex (W.alloc (.cells #[.bool vn, .int .i64 x, .string ⟨#[]⟩, .slice xo 0 xc] 98))
  have gA := gr_al hA
  have hb := al_new hA
  have hpA := (gA.block p (lt_of_heap hp) id).trans hp
  have HS0 : Hid (C8 A.drew p W.heap.size nu fo fc vn x xo xc) := c8 hpA hb
  have HF := hidM (leaf_fits (w := W) (ao := fo) (ca := fc) hT (allR nu) (by decide) vn x xo xc A.drew (gA.tr gr_drew))
  have HK : Hid (∀ w1, Gr A.drew w1 → C8 w1 p W.heap.size nu fo fc vn x xo xc ∧ Calls Tryz.prog 101 #[.pointer (some ⟨p, 0, none⟩), .agg #[.bool vn, .int .i64 x, .string ⟨#[]⟩, .slice xo 0 xc]] w1 fun e w' => e = .returned (.int .i64 0) ∧ FrD B W w' ∧ w'.heap[p]? = some (.cells (bdC nu fo fc n t (rows + 1)) 149) ∧ ∃ vo' vc' lo' lc', Nd B w' n m t nu (wt + 16) vo' (L + 1) vc' (bs ++ [.bool !vn]) lo' lc' (xs ++ [.int .i64 x])) := fun w1 g => by
    have g1 : Gr A w1 := Keeps.trans gr_drew g (fun _ _ h => h)
    have g2 : Gr W w1 := gA.tr g1
    have hp1 := (g1.block p (lt_of_heap hpA) id).trans hpA
    refine ⟨c8 hp1 ((g1.block _ (lt_of_heap hb) id).trans hb), ?_⟩
    refine (take16 B p n m t nu fo fc rows wt vo L vc bs lo lc xs vn x xo xc w1 hp1 (h.gr g2) (Nat.le_trans hB g2.size) hBp hL hw hr).mono ?_
    rintro e w' ⟨rfl, hf, hp', hn⟩
    exact ⟨rfl, (Gr.frD g2).trans hf, hp', hn⟩
  have HG := hidM gA
  obtain ⟨fb, hfb⟩ := ex (fitE true (fitN nu 3 vn x))
  rw [hfb] at HF
  have HFB := hidM hfb
  unfold C8 at HS0 HK
  by_cases hfit : fitN nu 3 vn x = true
  · have hz : fb = 0 := by rw [← hfb, hfit]; rfl
    subst hz
    have HFit := hidM hfit
    clear h hp hb hpA gA hT hfit hfb HFB
    go_enter Tryz.func70, Tryz.ntmps70
    go_wp2_with fail
    go_region_held3 (fun w' => w'.cell? ⟨p, 0, none⟩ = some (.string nmA) ∧ w'.cell? ⟨p, 1, none⟩ = some (.bool nu) ∧ w'.cell? ⟨p, 2, none⟩ = some (.int .i64 3) ∧ w'.cell? ⟨p, 3, none⟩ = some (.int .i64 0) ∧ w'.cell? ⟨p, 4, none⟩ = some (.int .i64 0) ∧ w'.cell? ⟨p, 5, none⟩ = some (.int .i64 0) ∧ w'.cell? ⟨p, 6, none⟩ = some (.slice fo 0 fc) ∧ w'.cell? ⟨W.heap.size, 0, none⟩ = some (.bool vn) ∧ w'.cell? ⟨W.heap.size, 1, none⟩ = some (.int .i64 x) ∧ w'.cell? ⟨W.heap.size, 2, none⟩ = some (.string ⟨#[]⟩) ∧ w'.cell? ⟨W.heap.size, 3, none⟩ = some (.slice xo 0 xc)) (first | with_reducible exact HS0.out | with_reducible exact HS1.out) ((go_at_call 100; refine HF.out.mono ?_; rintro e w1 ⟨rfl, g1⟩; have HG1 := hidM g1; obtain ⟨a1, a2⟩ := HK.out w1 g1; have HS1 := hidM a1; have HC := hidM a2; obtain ⟨-, -, -, -, -, -, -, y0, y1, y2, y3⟩ := a1; clear g1 a2))
    go_wp2_with (go_at_call 101; refine HC.out.mono ?_; rintro e w2 ⟨rfl, hq⟩; have HQ := hidM hq; clear hq)
    go_ret
    unfold AddA
    rw [if_pos HFit.out]
    exact ⟨rfl, HQ.out⟩
  have hz : fb = 7 := by
    rw [← hfb]
    have : fitN nu 3 vn x = false := by simpa using hfit
    rw [this]
    rfl
  subst hz
  have HFit := hidM hfit
  clear h hp hb hpA gA hT hfit hfb HFB
  go_enter Tryz.func70, Tryz.ntmps70
  go_wp2_with fail
  go_region_held3 (fun w' => w'.cell? ⟨p, 0, none⟩ = some (.string nmA) ∧ w'.cell? ⟨p, 1, none⟩ = some (.bool nu) ∧ w'.cell? ⟨p, 2, none⟩ = some (.int .i64 3) ∧ w'.cell? ⟨p, 3, none⟩ = some (.int .i64 0) ∧ w'.cell? ⟨p, 4, none⟩ = some (.int .i64 0) ∧ w'.cell? ⟨p, 5, none⟩ = some (.int .i64 0) ∧ w'.cell? ⟨p, 6, none⟩ = some (.slice fo 0 fc) ∧ w'.cell? ⟨W.heap.size, 0, none⟩ = some (.bool vn) ∧ w'.cell? ⟨W.heap.size, 1, none⟩ = some (.int .i64 x) ∧ w'.cell? ⟨W.heap.size, 2, none⟩ = some (.string ⟨#[]⟩) ∧ w'.cell? ⟨W.heap.size, 3, none⟩ = some (.slice xo 0 xc)) (first | with_reducible exact HS0.out | with_reducible exact HS1.out) ((go_at_call 100; refine HF.out.mono ?_; rintro e w1 ⟨rfl, g1⟩; have HG1 := hidM g1; obtain ⟨a1, a2⟩ := HK.out w1 g1; have HS1 := hidM a1; have HC := hidM a2; obtain ⟨-, -, -, -, -, -, -, y0, y1, y2, y3⟩ := a1; clear g1 a2))
  go_wp2_with fail
  go_ret
  unfold AddA
  rw [if_neg HFit.out]
  exact ⟨rfl, (HG.out.tr gr_drew).tr HG1.out⟩
end Go.Proofs.YtknnoiomdngmfaaGreatDoor.Kit
