import Derived.Test.YtkodgneneiledaaGreatDoorGB
import Derived.Test.YtkodgneneiledaaGreatDoorDA
import Derived.Test.YtkodgneneiledaaGreatDoorFG
set_option maxRecDepth 100000
set_option maxHeartbeats 4000000
namespace Go.Proofs.YtkodgneneiledaaGreatDoor.Kit
open Go.RowKit Go.Shelf Go.Deep
set_option linter.unusedVariables false
attribute [local go_sem] run_store_func
theorem AllR.pre {N L : List LS} {x : LS} (h : AllR N) (hp : L ++ [x] <+: N) : wrongE x L.length (tkL L) = 0 := by
  obtain ⟨r, rfl⟩ := hp
  have := h L.length (by simp)
  simpa using this
theorem first_eq {N L L' : List LS} {x x' : LS} (h : L ++ [x] <+: N) (h' : L' ++ [x'] <+: N) (a : AllR L) (a' : AllR L') (b : wrongE x L.length (tkL L) ≠ 0) (b' : wrongE x' L'.length (tkL L') ≠ 0) : L = L' ∧ x = x' := by
  have key : ∀ {L L' : List LS} {x x' : LS}, L ++ [x] <+: N → L' ++ [x'] <+: N → AllR L' → wrongE x L.length (tkL L) ≠ 0 → ¬ L.length < L'.length := fun {L L' x x'} h h' a' b hlt => by
    have h1 : L ++ [x] <+: L' := List.prefix_of_prefix_length_le h ((List.prefix_append L' [x']).trans h') (by simp; omega)
    exact b (a'.pre h1)
  have hl : L.length = L'.length := by
    have h1 := key h h' a' b
    have h2 := key h' h a b'
    omega
  have := List.prefix_of_prefix_length_le h h' (by simp [hl])
  have e := this.eq_of_length (by simp [hl])
  have := List.append_inj e hl
  exact ⟨this.1, by simpa using this.2⟩
theorem look_ok {S : Nat → Prop} {D : Nat} {fo no : Option Addr} {cf cn : Nat} {fs : List FT} {ns : List (ByteArray × ByteArray)} {w : World} (hT : Tab w) (hr : RowAt S w D fo fs) (hcf : fs.length ≤ cf) (hD : D ≤ big) (hS : ∀ b, S b → b < w.heap.size) (hn : NotesAt w no ns)
    (hE : (listsE fs.length ns).1 = 0) (hA : AllR (nodes D fs [] false)) : ∀ W, Gr w W →
    Calls Tryz.prog 37 #[.agg #[.slice fo fs.length cf, .slice no ns.length cn]] W fun e w' => ∃ vo vn vc, e = .returned (.tuple #[.agg #[.int .i64 0, .slice vo vn vc, .int .i64 0], .int .i64 ((nodes D fs [] false).length : Int)]) ∧ Gr W w' ∧ True := fun W g => by
  refine (look_walk S D fo no cf cn fs ns W (hT.gr g) (hr.kept fun b h => g.block b (hS b h) id) hcf hD (fun b h => Nat.lt_of_lt_of_le (hS b h) g.size) (hn.gr g)).mono ?_
  rintro e w' ⟨hg, h | h | h⟩
  · exact absurd hE h.1
  · exact ⟨none, 0, 0, h.2.2, hg, trivial⟩
  obtain ⟨_, L, x, vo, vc, hp, _, hb, _⟩ := h
  exact absurd (hA.pre hp) hb
theorem look_bad {S : Nat → Prop} {D : Nat} {fo no : Option Addr} {cf cn : Nat} {fs : List FT} {ns : List (ByteArray × ByteArray)} {w : World} (hT : Tab w) (hr : RowAt S w D fo fs) (hcf : fs.length ≤ cf) (hD : D ≤ big) (hS : ∀ b, S b → b < w.heap.size) (hn : NotesAt w no ns)
    (hE : (listsE fs.length ns).1 = 0) {L : List LS} {x : LS} (hp : L ++ [x] <+: nodes D fs [] false) (hA : AllR L) (hb : wrongE x L.length (tkL L) ≠ 0) : ∀ W, Gr w W →
    Calls Tryz.prog 37 #[.agg #[.slice fo fs.length cf, .slice no ns.length cn]] W fun e w' => ∃ vo vn vc, e = .returned (.tuple #[.agg #[.int .i64 (wrongE x L.length (tkL L)), .slice vo vn vc, .int .i64 0], .int .i64 (L.length : Int)]) ∧ Gr W w' ∧ vn = x.path.length ∧ w'.ownsRow 0 3 1 (.slice vo vn vc) vn (ints x.path) := fun W g => by
  refine (look_walk S D fo no cf cn fs ns W (hT.gr g) (hr.kept fun b h => g.block b (hS b h) id) hcf hD (fun b h => Nat.lt_of_lt_of_le (hS b h) g.size) (hn.gr g)).mono ?_
  rintro e w' ⟨hg, h | h | h⟩
  · exact absurd hE h.1
  · exact absurd (h.2.1.pre hp) hb
  obtain ⟨_, L', x', vo, vc, hp', hA', hb', he, ho, _⟩ := h
  obtain ⟨rfl, rfl⟩ := first_eq hp hp' hA hA' hb hb'
  exact ⟨vo, _, vc, he, hg, rfl, ho⟩
theorem check_walk (fo no : Option Addr) (nf cf nn cn : Nat) (er k : Int) (Q : Option Addr → Nat → Nat → World → Prop) (hQ : ∀ vo vn vc A B b c, Q vo vn vc A → A.heap[b]? = some (.cells c 46) → Keeps A B (fun k => k = b) → Q vo vn vc B) (w : World)
    (hl : ∀ W, Gr w W → Calls Tryz.prog 37 #[.agg #[.slice fo nf cf, .slice no nn cn]] W fun e w' => ∃ vo vn vc, e = .returned (.tuple #[.agg #[.int .i64 er, .slice vo vn vc, .int .i64 0], .int .i64 k]) ∧ Gr W w' ∧ Q vo vn vc w') :
    ∀ W, Gr w W → Calls Tryz.prog 12 #[.agg #[.slice fo nf cf, .slice no nn cn]] W fun e w' => ∃ vo vn vc, e = .returned (.agg #[.int .i64 er, .slice vo vn vc, .int .i64 0]) ∧ Gr W w' ∧ Q vo vn vc w' := by
  intro W g
  have HL : Hid (∀ W', Gr W W' → Calls Tryz.prog 37 #[.agg #[.slice fo nf cf, .slice no nn cn]] W' fun e w' => ∃ vo vn vc, e = .returned (.tuple #[.agg #[.int .i64 er, .slice vo vn vc, .int .i64 0], .int .i64 k]) ∧ Gr W' w' ∧ Q vo vn vc w') := fun W' g' => hl W' (g.trans g' (fun _ _ h => h))
  have HQ : Hid _ := hQ
  clear hl g hQ
  have hx2 : ((W.alloc (.cells #[.slice fo nf cf, .slice no nn cn] 27)).alloc (.cells #[.int .i64 0, .slice none 0 0, .int .i64 0] 46)).heap[W.heap.size + 1]? = some (.cells #[.int .i64 0, .slice none 0 0, .int .i64 0] 46) := by
    have := World.alloc_heap_new (W.alloc (.cells #[.slice fo nf cf, .slice no nn cn] 27)) (.cells #[.int .i64 0, .slice none 0 0, .int .i64 0] 46)
    rw [World.size_alloc] at this
    exact this
  have HG0 : Hid (Gr W ((W.alloc (.cells #[.slice fo nf cf, .slice no nn cn] 27)).alloc (.cells #[.int .i64 0, .slice none 0 0, .int .i64 0] 46))) := (gr_alloc W _).alloc _
  have HX := hidM hx2
  clear hx2
  go_enter Tryz.func12, Tryz.ntmps12
  go_wp2_with (go_at_call 37; refine Hid.out ?_)
  unfold Hid
  refine Calls.mono (HL.out _ HG0.out) ?_
  rintro e W1 ⟨vo, vn, vc, rfl, hg1, hq⟩
  have hx3 := (hg1.block _ (lt_of_heap HX.out) (fun h => h)).trans HX.out
  have hx4 : (W1.alloc (.cells #[.int .i64 er, .slice vo vn vc, .int .i64 0] 46)).heap[W.heap.size + 1]? = _ := ((gr_alloc W1 _).block _ (lt_of_heap hx3) (fun h => h)).trans hx3
  obtain ⟨y0, y1, y2⟩ := cell3 hx4
  have y3 := frz hx4 0
  have y4 := frz hx4 1
  have y5 := frz hx4 2
  have e0 := setc (j := 0) hx4 (.int .i64 er)
  have e1 := setc (j := 1) e0 (.slice vo vn vc)
  have e2 := setc (j := 2) e1 (.int .i64 0)
  have k5 : Keeps (W1.alloc (.cells #[.int .i64 er, .slice vo vn vc, .int .i64 0] 46)) _ (fun b => b = W.heap.size + 1) := keep1 (j := 2) (keep1 (j := 1) (keep1 (j := 0) (Keeps.refl (W1.alloc (.cells #[.int .i64 er, .slice vo vn vc, .int .i64 0] 46)) (fun b => b = W.heap.size + 1)) (.int .i64 er)) (.slice vo vn vc)) (.int .i64 0)
  have HE := hidM (And.intro e2 (And.intro k5 (And.intro hg1 (And.intro hq hx3))))
  clear hx3 hx4 e0 e1 e2 k5 hg1 hq
  go_wp2_with fail
  obtain ⟨e2, k5, hg1, hq, hx3⟩ := HE.out
  have hk : Keeps W1 _ (fun b => b = W.heap.size + 1) := (Keeps.trans (S := fun b => b = W.heap.size + 1) ((gr_alloc W1 _).mono fun _ _ h => h.elim) k5 (fun _ _ h => h))
  have hqe := HQ.out _ _ _ _ _ _ _ hq hx3 hk
  have hge := (HG0.out.trans hg1 (fun _ _ h => h)).trans hk (fun j hj h => by omega)
  obtain ⟨v0, v1, v2⟩ := cell3 (e2.trans (by simp : _ = some (Obj.cells #[.int .i64 er, .slice vo vn vc, .int .i64 0] 46 (0, 0))))
  refine bodyPost_ret (v := .agg #[.int .i64 er, .slice vo vn vc, .int .i64 0]) ?_ rfl ⟨vo, vn, vc, rfl, hge, hqe⟩
  simp [results, Tryz.f12, go_sem, v0, v1, v2]
theorem maybe_walk (fo no : Option Addr) (nf cf nn cn : Nat) (er : Int) (Q : Option Addr → Nat → Nat → World → Prop) (w : World)
    (hl : ∀ W, Gr w W → Calls Tryz.prog 12 #[.agg #[.slice fo nf cf, .slice no nn cn]] W fun e w' => ∃ vo vn vc, e = .returned (.agg #[.int .i64 er, .slice vo vn vc, .int .i64 0]) ∧ Gr W w' ∧ Q vo vn vc w') :
    ∀ W, Gr w W → Calls Tryz.prog 38 #[.agg #[.slice fo nf cf, .slice no nn cn]] W fun e w' => e = .returned (.bool (er == 0)) ∧ Gr W w' := by
  intro W g
  have HL : Hid (∀ W', Gr W W' → Calls Tryz.prog 12 #[.agg #[.slice fo nf cf, .slice no nn cn]] W' fun e w' => ∃ vo vn vc, e = .returned (.agg #[.int .i64 er, .slice vo vn vc, .int .i64 0]) ∧ Gr W' w' ∧ Q vo vn vc w') := fun W' g' => hl W' (g.trans g' (fun _ _ h => h))
  clear hl g
  have hfl : ∀ vo vn vc w, (Instr.field 46 (.agg #[.int .i64 er, .slice vo vn vc, .int .i64 0]) 0).run Tryz.prog w = .ok (.int .i64 er) w := fun vo vn vc w => by kernel_rfl
  go_enter Tryz.func38, Tryz.ntmps38
  go_wp2_with (go_at_call 12; refine Hid.out ?_)
  unfold Hid
  refine Calls.mono (HL.out _ (gr_alloc W _)) ?_
  rintro e W1 ⟨vo, vn, vc, rfl, hg1, hq⟩
  have HE := hidM hg1
  clear hg1 hq
  go_wp2_with fail
  go_ret
  exact ⟨rfl, (gr_alloc W _).trans HE.out (fun _ _ h => h)⟩
theorem count_walk (fo no : Option Addr) (nf cf nn cn : Nat) (k : Int) (w : World)
    (hl : ∀ W, Gr w W → Calls Tryz.prog 37 #[.agg #[.slice fo nf cf, .slice no nn cn]] W fun e w' => ∃ vo vn vc, e = .returned (.tuple #[.agg #[.int .i64 0, .slice vo vn vc, .int .i64 0], .int .i64 k]) ∧ Gr W w' ∧ True) :
    ∀ W, Gr w W → Calls Tryz.prog 18 #[.agg #[.slice fo nf cf, .slice no nn cn]] W fun e w' => e = .returned (.int .i64 k) ∧ Gr W w' := by
  intro W g
  have HL : Hid (∀ W', Gr W W' → Calls Tryz.prog 37 #[.agg #[.slice fo nf cf, .slice no nn cn]] W' fun e w' => ∃ vo vn vc, e = .returned (.tuple #[.agg #[.int .i64 0, .slice vo vn vc, .int .i64 0], .int .i64 k]) ∧ Gr W' w' ∧ True) := fun W' g' => hl W' (g.trans g' (fun _ _ h => h))
  clear hl g
  go_enter Tryz.func18, Tryz.ntmps18
  go_wp2_with (go_at_call 37; refine Hid.out ?_)
  unfold Hid
  refine Calls.mono (HL.out _ (gr_alloc W _)) ?_
  rintro e W1 ⟨vo, vn, vc, rfl, hg1, -⟩
  have HE := hidM hg1
  clear hg1
  go_wp2_with fail
  go_ret
  exact ⟨rfl, ((gr_alloc W _).trans HE.out (fun _ _ h => h)).alloc _⟩
theorem find_walk (fo no : Option Addr) (nf cf nn cn : Nat) (nm : ByteArray) (k : Int) (w : World)
    (hl : ∀ W, Gr w W → Calls Tryz.prog 38 #[.agg #[.slice fo nf cf, .slice no nn cn]] W fun e w' => e = .returned (.bool true) ∧ Gr W w')
    (hk : ∀ W, Gr w W → Calls Tryz.prog 46 #[.slice fo nf cf, .string nm] W fun e w' => e = .returned (.int .i64 k) ∧ Gr W w') :
    ∀ W, Gr w W → Calls Tryz.prog 19 #[.agg #[.slice fo nf cf, .slice no nn cn], .string nm] W fun e w' => e = .returned (.int .i64 k) ∧ Gr W w' := by
  intro W g
  have HL : Hid (∀ W', Gr W W' → Calls Tryz.prog 38 #[.agg #[.slice fo nf cf, .slice no nn cn]] W' fun e w' => e = .returned (.bool true) ∧ Gr W' w') := fun W' g' => hl W' (g.trans g' (fun _ _ h => h))
  have HK : Hid (∀ W', Gr W W' → Calls Tryz.prog 46 #[.slice fo nf cf, .string nm] W' fun e w' => e = .returned (.int .i64 k) ∧ Gr W' w') := fun W' g' => hk W' (g.trans g' (fun _ _ h => h))
  clear hl hk g
  have x1 := World.alloc_heap_new W (.cells #[.slice fo nf cf, .slice no nn cn] 27)
  have HX := hidM x1
  clear x1
  go_enter Tryz.func19, Tryz.ntmps19
  go_wp2_with (go_at_call 38; refine Hid.out ?_)
  unfold Hid
  refine Calls.mono (HL.out _ (gr_alloc W _)) ?_
  rintro e W1 ⟨rfl, hg1⟩
  have x1 := (hg1.block _ (lt_of_heap HX.out) (fun h => h)).trans HX.out
  have y0 : W1.cell? ⟨W.heap.size, 0, none⟩ = some (.slice fo nf cf) := by simp [World.cell?, x1]
  have HG := hidM ((gr_alloc W _).trans hg1 (fun _ _ h => h))
  clear x1 hg1 HX
  go_wp2_with (go_at_call 46; refine Hid.out ?_)
  unfold Hid
  refine Calls.mono (HK.out _ HG.out) ?_
  rintro e W2 ⟨rfl, hg2⟩
  have HE := hidM (HG.out.trans hg2 (fun _ _ h => h))
  clear hg2
  go_wp2_with fail
  go_ret
  exact ⟨rfl, HE.out⟩
end Go.Proofs.YtkodgneneiledaaGreatDoor.Kit
namespace Go.Proofs.YtkodgneneiledaaGreatDoor.Kit
def nodesC : Nat → List FT → List Nat → Bool → List LS
  | 0, _, _, _ => []
  | d + 1, l, path, inD => (List.range l.length).flatMap fun i => ⟨l, path ++ [i], inD⟩ :: (if path.length + 1 ≤ 64 then nodesC d (l[i]!).kids (path ++ [i]) (inD || decide ((l[i]!).kind = 19)) else [])
def uptoC (d : Nat) (l : List FT) (path : List Nat) (inD : Bool) (i : Nat) : List LS :=
  (List.range i).flatMap fun i => ⟨l, path ++ [i], inD⟩ :: (if path.length + 1 ≤ 64 then nodesC d (l[i]!).kids (path ++ [i]) (inD || decide ((l[i]!).kind = 19)) else [])
theorem nodesC_succ (d : Nat) (l : List FT) (path : List Nat) (inD : Bool) : nodesC (d + 1) l path inD = uptoC d l path inD l.length := rfl
theorem uptoC_zero (d : Nat) (l : List FT) (path : List Nat) (inD : Bool) : uptoC d l path inD 0 = [] := rfl
theorem uptoC_succ (d : Nat) (l : List FT) (path : List Nat) (inD : Bool) (i : Nat) :
    uptoC d l path inD (i + 1) = uptoC d l path inD i ++ ⟨l, path ++ [i], inD⟩ :: (if path.length + 1 ≤ 64 then nodesC d (l[i]!).kids (path ++ [i]) (inD || decide ((l[i]!).kind = 19)) else []) := by
  simp [uptoC, List.range_succ, List.flatMap_append]
theorem uptoC_prefix (d : Nat) (l : List FT) (path : List Nat) (inD : Bool) {i j : Nat} (h : i ≤ j) : uptoC d l path inD i <+: uptoC d l path inD j := by
  induction j with
  | zero => obtain rfl : i = 0 := by omega
            exact List.prefix_rfl
  | succ j ih =>
    by_cases e : i = j + 1
    · subst e; exact List.prefix_rfl
    exact (ih (by omega)).trans (by rw [uptoC_succ]; exact List.prefix_append _ _)
def grown (out new : List LS) : List LS := (out ++ new).take 257
theorem grown_full {out new more : List LS} (h : 256 < (grown out new).length) (hp : new <+: more) : grown out more = grown out new := by
  obtain ⟨t, rfl⟩ := hp
  simp only [grown, List.length_take] at h
  simp only [grown, ← List.append_assoc]
  exact List.take_append_of_le_length (by omega)
theorem grown_room {out new : List LS} (h : (grown out new).length ≤ 256) : grown out new = out ++ new := by
  simp only [grown, List.length_take] at h
  exact List.take_of_length_le (by omega)
theorem grown_le (out new : List LS) : (grown out new).length ≤ 257 := by simp [grown]; omega
theorem grown_step {out new : List LS} (h : (grown out new).length ≤ 256) (x : LS) (kids : List LS) : grown (grown out new ++ [x]) kids = grown out (new ++ x :: kids) := by
  rw [grown_room h]
  simp [grown]
theorem grown_one {out new : List LS} (h : (grown out new).length ≤ 256) (x : LS) : grown out (new ++ [x]) = grown out new ++ [x] := by
  have e := grown_room h
  rw [e]
  rw [e] at h
  simp only [grown, ← List.append_assoc]
  exact List.take_of_length_le (by simp at h ⊢; omega)
theorem cut_same : ∀ (d : Nat) (l : List FT) (path : List Nat) (inD : Bool) (k : Nat), (∀ x ∈ (nodes d l path inD).take k, x.path.length ≤ 64) →
    (nodes d l path inD).take (k + 1) = (nodesC d l path inD).take (k + 1) ∧ ((∀ x ∈ nodes d l path inD, x.path.length ≤ 64) → nodesC d l path inD = nodes d l path inD)
  | 0, _, _, _, _, _ => ⟨rfl, fun _ => rfl⟩
  | d + 1, l, path, inD, k, h => by
    rw [nodes_succ, nodesC_succ]
    rw [nodes_succ] at h
    by_cases hp : path.length + 1 ≤ 64
    · -- the way is short enough here: by the fields within
      have key : ∀ n k, (∀ x ∈ (upto d l path inD n).take k, x.path.length ≤ 64) → (upto d l path inD n).take (k + 1) = (uptoC d l path inD n).take (k + 1) ∧ ((∀ x ∈ upto d l path inD n, x.path.length ≤ 64) → uptoC d l path inD n = upto d l path inD n) := by
        intro n
        induction n with
        | zero => exact fun _ _ => ⟨rfl, fun _ => rfl⟩
        | succ n ih =>
          intro k hk
          have hwhole : (∀ x ∈ upto d l path inD (n + 1), x.path.length ≤ 64) → uptoC d l path inD (n + 1) = upto d l path inD (n + 1) := by
            intro hall
            rw [upto_succ] at hall ⊢
            rw [uptoC_succ, if_pos hp, (ih 0 (by simp)).2 (fun x hx => hall x (List.mem_append_left _ hx)),
              (cut_same d (l[n]!).kids (path ++ [n]) _ 0 (by simp)).2 (fun x hx => hall x (List.mem_append_right _ (List.mem_cons_of_mem _ hx)))]
          refine ⟨?_, hwhole⟩
          rw [upto_succ] at hk ⊢
          rw [uptoC_succ, if_pos hp]
          by_cases hlt : k < (upto d l path inD n).length
          · have h1 := (ih k (fun x hx => hk x (by rw [List.take_append_of_le_length (by omega)]; exact hx))).1
            have hlen : k + 1 ≤ (uptoC d l path inD n).length := by
              have := congrArg List.length h1
              simp only [List.length_take] at this
              omega
            rw [List.take_append_of_le_length (by omega), List.take_append_of_le_length hlen, h1]
          have hall : ∀ x ∈ upto d l path inD n, x.path.length ≤ 64 := fun x hx => hk x (by
            rw [List.take_append]
            exact List.mem_append_left _ (by rw [List.take_of_length_le (by omega)]; exact hx))
          rw [(ih 0 (by simp)).2 hall, List.take_append, List.take_append]
          congr 1
          obtain ⟨m, hm⟩ : ∃ m, k = (upto d l path inD n).length + m := ⟨k - (upto d l path inD n).length, by omega⟩
          have e1 : k + 1 - (upto d l path inD n).length = m + 1 := by omega
          rw [e1, List.take_succ_cons, List.take_succ_cons]
          congr 1
          cases m with
          | zero => simp
          | succ m =>
            refine (cut_same d (l[n]!).kids (path ++ [n]) _ m fun x hx => hk x ?_).1
            rw [List.take_append]
            refine List.mem_append_right _ ?_
            rw [show k - (upto d l path inD n).length = m + 1 by omega, List.take_succ_cons]
            exact List.mem_cons_of_mem _ hx
      exact key l.length k h
    -- the way is too long already: the first is too deep
    cases l with
    | nil => exact ⟨rfl, fun _ => rfl⟩
    | cons f l =>
      obtain ⟨t, ht⟩ : ∃ t, upto d (f :: l) path inD (f :: l).length = ⟨f :: l, path ++ [0], inD⟩ :: t := by
        have := upto_prefix d (f :: l) path inD (i := 1) (j := (f :: l).length) (by simp)
        rw [upto_succ, upto_zero] at this
        obtain ⟨t, ht⟩ := this
        exact ⟨_, ht.symm⟩
      obtain ⟨t', ht'⟩ : ∃ t, uptoC d (f :: l) path inD (f :: l).length = ⟨f :: l, path ++ [0], inD⟩ :: t := by
        have := uptoC_prefix d (f :: l) path inD (i := 1) (j := (f :: l).length) (by simp)
        rw [uptoC_succ, uptoC_zero] at this
        obtain ⟨t, ht⟩ := this
        exact ⟨_, ht.symm⟩
      rw [ht] at h ⊢
      rw [ht']
      cases k with
      | zero => exact ⟨by simp, fun hall => absurd (hall _ (List.mem_cons_self ..)) (by simp; omega)⟩
      | succ k => exact absurd (h _ (by rw [List.take_succ_cons]; exact List.mem_cons_self ..)) (by simp; omega)
end Go.Proofs.YtkodgneneiledaaGreatDoor.Kit
namespace Go.Proofs.YtkodgneneiledaaGreatDoor.Kit
open Go.RowKit Go.Shelf Go.Deep
set_option linter.unusedVariables false
attribute [local go_sem] run_store_func
def IntsAt (W : World) (ao : Option Addr) (l : List Nat) : Prop := l ≠ [] → ∃ b o, ao = some ⟨b, o, none⟩ ∧ ∀ j (h : j < l.length), W.cell? ⟨b, o + j, none⟩ = some (.int .i64 (l[j] : Int))
theorem IntsAt.gr {W W' : World} {ao : Option Addr} {l : List Nat} (h : IntsAt W ao l) (g : Gr W W') : IntsAt W' ao l := fun hn => by
  obtain ⟨b, o, e, hc⟩ := h hn
  exact ⟨b, o, e, fun j hj => g.cell' (hc j hj) id⟩
theorem ints_of_own {W : World} {vo : Option Addr} {n vc : Nat} {l : List Nat} (h : W.ownsRow 0 3 1 (.slice vo n vc) n (ints l)) : IntsAt W vo l := fun hn => by
  have hl : l.length = n := by have := h.1; simpa [ints] using this
  rcases h.2 with ⟨e, h0⟩ | ⟨g, cap, cur, e, _⟩
  · exact absurd (List.eq_nil_of_length_eq_zero (by omega)) hn
  cases e
  refine ⟨g, 0, rfl, fun j hj => ?_⟩
  rw [Nat.zero_add, h.cellAt j (by omega)]
  simp [ints, hj]
end Go.Proofs.YtkodgneneiledaaGreatDoor.Kit
namespace Go.Proofs.YtkodgneneiledaaGreatDoor.Kit
open Go.RowKit Go.Shelf Go.Deep
set_option linter.unusedVariables false
attribute [local go_sem] run_store_func
def CheckR (w : World) (E : Int × Int) (N : List LS) (e : Ending) (w' : World) : Prop := Gr w w' ∧
  ((E.1 ≠ 0 ∧ e = .returned (fltV E.1 (.slice none 0 0) E.2)) ∨
   (E.1 = 0 ∧ AllR N ∧ e = .returned (fltV 0 (.slice none 0 0) 0)) ∨
   (E.1 = 0 ∧ ∃ L x vo vc, (L ++ [x]) <+: N ∧ AllR L ∧ wrongE x L.length (tkL L) ≠ 0 ∧ e = .returned (fltV (wrongE x L.length (tkL L)) (.slice vo x.path.length vc) 0) ∧
      w'.ownsRow 0 3 1 (.slice vo x.path.length vc) x.path.length (ints x.path)))
theorem CheckR.lists {w w' : World} {E : Int × Int} {N : List LS} {a b : Int} (g : Gr w w') (e : E = (a, b)) (ha : a ≠ 0) : CheckR w E N (.returned (.agg #[.int .i64 a, .slice none 0 0, .int .i64 b])) w' := by
  subst e
  exact ⟨g, .inl ⟨ha, rfl⟩⟩
theorem AllR.next {N : List LS} {j : Nat} (hj : j < N.length) (h : AllR (N.take j)) (hz : wrongE N[j] j (tkL (N.take j)) = 0) : AllR (N.take (j + 1)) := by
  rw [List.take_succ_eq_append_getElem hj]
  exact h.snoc (by rw [List.length_take, Nat.min_eq_left (by omega)]; exact hz)
theorem row_ne_box {W : World} {t n B : Nat} {v : Value} {xs : List Value} {c : Array Value} (h : W.ownsRow 0 3 1 v n xs) (hB : W.heap[B]? = some (.cells c t)) (ht : t ≠ 3) : v.ownBlock ≠ some B := fun e => by
  rcases h.2 with ⟨rfl, _⟩ | ⟨g, cap, cur, rfl, _, hg, _⟩
  · simp [Value.ownBlock] at e
  simp [Value.ownBlock] at e
  subst e
  rw [hg] at hB
  simp at hB
  exact ht hB.2.symm
end Go.Proofs.YtkodgneneiledaaGreatDoor.Kit
namespace Go.Proofs.YtkodgneneiledaaGreatDoor.Kit
open Go.RowKit Go.Shelf Go.Deep
def FaultIs (E : Int × Int) (N : List LS) (er : Int) (p : List Nat) (k : Int) : Prop :=
  (E.1 ≠ 0 ∧ er = E.1 ∧ p = [] ∧ k = E.2) ∨ (E.1 = 0 ∧ AllR N ∧ er = 0 ∧ p = [] ∧ k = 0) ∨
  (E.1 = 0 ∧ ∃ L x, (L ++ [x]) <+: N ∧ AllR L ∧ wrongE x L.length (tkL L) ≠ 0 ∧ er = wrongE x L.length (tkL L) ∧ p = x.path ∧ k = 0)
theorem FaultIs.one {E : Int × Int} {N : List LS} {er er' : Int} {p p' : List Nat} {k k' : Int} (h : FaultIs E N er p k) (h' : FaultIs E N er' p' k') : er = er' ∧ p = p' ∧ k = k' := by
  rcases h with ⟨a, rfl, rfl, rfl⟩ | ⟨a, b, rfl, rfl, rfl⟩ | ⟨a, L, x, h1, h2, h3, rfl, rfl, rfl⟩ <;> rcases h' with ⟨a', rfl, rfl, rfl⟩ | ⟨a', b', rfl, rfl, rfl⟩ | ⟨a', L', x', h1', h2', h3', rfl, rfl, rfl⟩
  · exact ⟨rfl, rfl, rfl⟩
  · exact absurd a' a
  · exact absurd a' a
  · exact absurd a a'
  · exact ⟨rfl, rfl, rfl⟩
  · exact absurd (b.pre h1') h3'
  · exact absurd a a'
  · exact absurd (b'.pre h1) h3
  obtain ⟨rfl, rfl⟩ := first_eq h1 h1' h2 h2' h3 h3'
  exact ⟨rfl, rfl, rfl⟩
theorem wrong_short {s : LS} {k : Nat} {t : Nat → Bool} (h : wrongE s k t = 0) : s.path.length ≤ 64 := by
  unfold wrongE wr at h
  split at h
  · omega
  omega
theorem AllR.short {l : List LS} (h : AllR l) : ∀ x ∈ l, x.path.length ≤ 64 := fun x hx => by
  obtain ⟨k, hk, rfl⟩ := List.mem_iff_getElem.1 hx
  exact wrong_short (h k hk)
theorem FaultIs.cut {E : Int × Int} {D : Nat} {fs : List FT} {er : Int} {p : List Nat} {k : Int} (h : FaultIs E (nodes D fs [] false) er p k) : FaultIs E (grown [] (nodesC D fs [] false)) er p k := by
  rcases h with h | ⟨a, b, h⟩ | ⟨a, L, x, h1, h2, h3, h4⟩
  · exact .inl h
  · refine .inr (.inl ⟨a, ?_, h⟩)
    have e := (cut_same D fs [] false 0 (by simp)).2 b.short
    rw [grown, List.nil_append, e, List.take_of_length_le (by have := b.len; omega)]
    exact b
  refine .inr (.inr ⟨a, L, x, ?_, h2, h3, h4⟩)
  have hl := h2.len
  have ht : (nodes D fs [] false).take (L.length + 1) = L ++ [x] := by
    obtain ⟨t, ht⟩ := h1
    rw [← ht, List.take_append_of_le_length (by simp)]
    exact List.take_of_length_le (by simp)
  have htL : (nodes D fs [] false).take L.length = L := by
    obtain ⟨t, ht⟩ := h1
    rw [← ht, List.append_assoc, List.take_left]
  have e := (cut_same D fs [] false L.length (by rw [htL]; exact h2.short)).1
  rw [ht] at e
  rw [e, grown, List.nil_append]
  exact List.take_prefix_take_left (by omega)
end Go.Proofs.YtkodgneneiledaaGreatDoor.Kit
namespace Go.Proofs.YtkodgneneiledaaGreatDoor.Kit
open Go.RowKit Go.Shelf Go.Deep
set_option linter.unusedVariables false
attribute [local go_sem] run_store_func
theorem row_kp {W W' : World} {t s n : Nat} {v : Value} {xs : List Value} (h : W.ownsRow 0 t s v n xs) (e : ∀ g, v.ownBlock = some g → W'.heap[g]? = W.heap[g]?) : W'.ownsRow 0 t s v n xs := by
  refine ⟨h.1, h.2.imp id ?_⟩
  rintro ⟨g, cap, cur, rfl, h0, hg, r⟩
  exact ⟨g, cap, cur, rfl, h0, (e g rfl).trans hg, r⟩
def FaultQ (E : Int × Int) (N : List LS) (er : Int) (vo : Option Addr) (vn vc : Nat) (k : Int) (W : World) : Prop := ∃ p : List Nat, p.length = vn ∧ FaultIs E N er p k ∧ W.ownsRow 0 3 1 (.slice vo vn vc) vn (ints p)
end Go.Proofs.YtkodgneneiledaaGreatDoor.Kit
