import Derived.Test.YtkodgneneiledaaGreatDoorYR
import Derived.Laws.CopyOwn
set_option maxRecDepth 100000
set_option maxHeartbeats 4000000
namespace Go.Proofs.YtkodgneneiledaaGreatDoor.Kit
open Go.RowKit Go.Shelf Go.Deep
set_option linter.unusedVariables false
attribute [local go_sem] run_store_func
def PfQ (W : World) (s : ByteArray) (e : Ending) (w' : World) : Prop := Gr W w' ∧ ((∃ er at_ : Int, er ≠ 0 ∧ ParBad s (fldS s.data.toList) er at_ ∧ e = .returned (.tuple #[.agg #[.string ⟨#[]⟩, .bool false, .int .i64 0, .int .i64 0, .int .i64 0, .int .i64 0, .slice none 0 0], .int .i64 er, .int .i64 at_])) ∨
  (∃ (f : FT) (a : Nat) (g : List Nat) (ko : Option Addr) (kc : Nat), s.size ≤ 65536 ∧ whP s.data.toList (fldS s.data.toList) (0, []) = .ok (([f], []), (a, g)) ∧ AllR (nodes (D0 + 1) [f] [] false) ∧ e = .returned (.tuple #[.agg #[.string f.name, .bool f.nul, .int .i64 f.kind, .int .i64 f.width, .int .i64 f.id, .int .i64 f.index, .slice ko f.kids.length kc], .int .i64 0, .int .i64 0]) ∧ f.kids.length ≤ kc ∧ RowAt (fun z => W.heap.size ≤ z ∧ z < w'.heap.size) w' D0 ko f.kids))
theorem wh_one {T : List UInt8} {l : List FT} {ns : List (ByteArray × ByteArray)} {st : Ps} (h : whP T (fldS T) (0, []) = .ok ((l, ns), st)) : ∃ f, l = [f] ∧ ns = [] := by
  obtain ⟨x, s1, e1, e2⟩ := Pr.inv h
  obtain ⟨u, s2, e3, e4⟩ := Pr.inv e2
  cases e4
  unfold fldS at e1
  obtain ⟨f, s3, e5, e6⟩ := Pr.inv e1
  cases e6
  exact ⟨f, rfl, rfl⟩
theorem parseField9_any (t : ByteArray) (W : World) (hT : Tab W) : Calls Tryz.prog 9 #[.string t] W (PfQ W t) := by
  obtain ⟨V0, hV0⟩ : ∃ V0, W.alloc (.cells #[.string ⟨#[]⟩, .bool false, .int .i64 0, .int .i64 0, .int .i64 0, .int .i64 0, .slice none 0 0] 37) = V0 := ⟨_, rfl⟩
  have g0' : Gr W V0 := by rw [← hV0]; exact gr_alloc W _
  have HBx0 : Hid (V0.heap[W.heap.size]? = some (.cells #[.string ⟨#[]⟩, .bool false, .int .i64 0, .int .i64 0, .int .i64 0, .int .i64 0, .slice none 0 0] 37 (0, 0))) := by show _ = _; rw [← hV0]; exact heap_alloc_new W _
  have HQ := hidP (readF_any t V0 (hT.gr g0'))
  have HG0 := hidP g0'
  obtain ⟨b, hb⟩ : ∃ b, b = W.heap.size := ⟨_, rfl⟩
  have HV := hidP hV0
  clear hT g0' hV0
  go_enter Tryz.func9, Tryz.ntmps9
  go_wp2_with (go_at_call 21; refine Hid.out ?_)
  unfold Hid
  rw [HV.out, ← hb]
  rw [← hb] at HBx0
  have HB := hidP hb
  clear HV hb
  refine Calls.mono HQ.out ?_
  rintro e' U ⟨gU, h | h⟩
  · obtain ⟨er, at_, hne, hbad, rfl⟩ := h
    have gY : Gr U (U.alloc (.cells #[.slice none 0 0, .slice none 0 0] 27)) := gr_alloc U _
    have HBx : Hid ((U.alloc (.cells #[.slice none 0 0, .slice none 0 0] 27)).heap[b]? = some (.cells #[.string ⟨#[]⟩, .bool false, .int .i64 0, .int .i64 0, .int .i64 0, .int .i64 0, .slice none 0 0] 37 (0, 0))) := (gY.block b (Nat.lt_of_lt_of_le (lt_of_heap HBx0.out) gU.size) id).trans ((gU.block b (lt_of_heap HBx0.out) id).trans HBx0.out)
    have HGY : Hid (Gr W (U.alloc (.cells #[.slice none 0 0, .slice none 0 0] 27))) := (HG0.out.trans gU fun _ _ h => h).trans gY fun _ _ h => h
    have HN := hidP hne
    have HBad := hidP hbad
    have hnb : (er != 0) = true := bne_iff_ne.2 hne
    clear hne hbad gU gY HQ HG0 HBx0
    have z0 : (U.alloc (.cells #[.slice none 0 0, .slice none 0 0] 27)).frozen? ⟨b, 0, none⟩ = false := frz HBx.out 0
    have t0 : (U.alloc (.cells #[.slice none 0 0, .slice none 0 0] 27)).cell? ⟨b, 0, none⟩ = some (.string ⟨#[]⟩) := by simp [World.cell?, HBx.out]
    have z1 : (U.alloc (.cells #[.slice none 0 0, .slice none 0 0] 27)).frozen? ⟨b, 1, none⟩ = false := frz HBx.out 1
    have t1 : (U.alloc (.cells #[.slice none 0 0, .slice none 0 0] 27)).cell? ⟨b, 1, none⟩ = some (.bool false) := by simp [World.cell?, HBx.out]
    have z2 : (U.alloc (.cells #[.slice none 0 0, .slice none 0 0] 27)).frozen? ⟨b, 2, none⟩ = false := frz HBx.out 2
    have t2 : (U.alloc (.cells #[.slice none 0 0, .slice none 0 0] 27)).cell? ⟨b, 2, none⟩ = some (.int .i64 0) := by simp [World.cell?, HBx.out]
    have z3 : (U.alloc (.cells #[.slice none 0 0, .slice none 0 0] 27)).frozen? ⟨b, 3, none⟩ = false := frz HBx.out 3
    have t3 : (U.alloc (.cells #[.slice none 0 0, .slice none 0 0] 27)).cell? ⟨b, 3, none⟩ = some (.int .i64 0) := by simp [World.cell?, HBx.out]
    have z4 : (U.alloc (.cells #[.slice none 0 0, .slice none 0 0] 27)).frozen? ⟨b, 4, none⟩ = false := frz HBx.out 4
    have t4 : (U.alloc (.cells #[.slice none 0 0, .slice none 0 0] 27)).cell? ⟨b, 4, none⟩ = some (.int .i64 0) := by simp [World.cell?, HBx.out]
    have z5 : (U.alloc (.cells #[.slice none 0 0, .slice none 0 0] 27)).frozen? ⟨b, 5, none⟩ = false := frz HBx.out 5
    have t5 : (U.alloc (.cells #[.slice none 0 0, .slice none 0 0] 27)).cell? ⟨b, 5, none⟩ = some (.int .i64 0) := by simp [World.cell?, HBx.out]
    have z6 : (U.alloc (.cells #[.slice none 0 0, .slice none 0 0] 27)).frozen? ⟨b, 6, none⟩ = false := frz HBx.out 6
    have t6 : (U.alloc (.cells #[.slice none 0 0, .slice none 0 0] 27)).cell? ⟨b, 6, none⟩ = some (.slice none 0 0) := by simp [World.cell?, HBx.out]
    go_wp2_with fail
    have hb3 := put7_box (.string ⟨#[]⟩) (.bool false) (.int .i64 0) (.int .i64 0) (.int .i64 0) (.int .i64 0) (.slice none 0 0) HBx.out
    have k3 := put7_keeps (U.alloc (.cells #[.slice none 0 0, .slice none 0 0] 27)) b (.string ⟨#[]⟩) (.bool false) (.int .i64 0) (.int .i64 0) (.int .i64 0) (.int .i64 0) (.slice none 0 0)
    (try simp only [Exit.inBlock, Exit.then])
    exact bodyPost_ret (results_pf (z := .int .i64 er) (x := .int .i64 at_) rfl rfl rfl rfl hb3) rfl ⟨HGY.out.trans k3 fun j hj h => by have := HB.out; omega, .inl ⟨er, at_, HN.out, HBad.out, rfl⟩⟩
  obtain ⟨l', ns', a', g', fo, fc, no, nc, h1, h2, h3, h4, h5, rfl, hfc, hrow, _⟩ := h
  obtain ⟨f, rfl, rfl⟩ := wh_one h2
  have HX : Hid (t.size ≤ 65536 ∧ whP t.data.toList (fldS t.data.toList) (0, []) = .ok (([f], []), (a', g')) ∧ AllR (nodes (D0 + 1) [f] [] false)) := ⟨h1, h2, h4⟩
  obtain ⟨gb, o, rfl, hgb, hi⟩ := hrow.2 (by simp)
  obtain ⟨ko, kc, hc, hkc, hkr⟩ := hi 0 (by simp)
  have hc : CellsAt U gb (o + 0 * 7) f ko kc := hc
  have hkc : f.kids.length ≤ kc := hkc
  have hkr : RowAt (fun z => V0.heap.size ≤ z ∧ z < U.heap.size) U D0 ko f.kids := hkr
  rw [Nat.zero_mul, Nat.add_zero] at hc
  obtain ⟨Y, hY⟩ : ∃ Y, U.alloc (.cells #[.slice (some ⟨gb, o, none⟩) 1 fc, .slice no 0 nc] 27) = Y := ⟨_, rfl⟩
  have gY : Gr U Y := by rw [← hY]; exact gr_alloc U _
  have hcY := hc.kept (gY.block gb hgb.2 id)
  have hbx := (gY.block b (Nat.lt_of_lt_of_le (lt_of_heap HBx0.out) gU.size) id).trans ((gU.block b (lt_of_heap HBx0.out) id).trans HBx0.out)
  have HBx := hidP hbx
  have HKr : Hid (f.kids.length ≤ kc ∧ RowAt (fun z => V0.heap.size ≤ z ∧ z < U.heap.size) Y D0 ko f.kids) := ⟨hkc, hkr.kept fun z hz => gY.block z hz.2 id⟩
  have HGY : Hid (Gr W Y) := (HG0.out.trans gU fun _ _ h => h).trans gY fun _ _ h => h
  have HLt : Hid (b < V0.heap.size ∧ W.heap.size ≤ V0.heap.size ∧ U.heap.size ≤ Y.heap.size ∧ V0.heap.size ≤ gb) := ⟨lt_of_heap HBx0.out, HG0.out.size, gY.size, hgb.1⟩
  obtain ⟨q0, q1, q2, q3, q4, q5, q6⟩ := hcY
  have hfcI : (0 : Int) < (1 : Int) := by decide
  have HY := hidP hY
  have n0 : ¬ gb = b := by have := HLt.out; omega
  clear gU hrow hgb hi hc hkc hkr hY gY hbx HBx0 HQ HG0 h1 h2 h3 h4 h5
  have z0 : Y.frozen? ⟨b, 0, none⟩ = false := frz HBx.out 0
  have t0 : Y.cell? ⟨b, 0, none⟩ = some (.string ⟨#[]⟩) := by simp [World.cell?, HBx.out]
  have z1 : Y.frozen? ⟨b, 1, none⟩ = false := frz HBx.out 1
  have t1 : Y.cell? ⟨b, 1, none⟩ = some (.bool false) := by simp [World.cell?, HBx.out]
  have z2 : Y.frozen? ⟨b, 2, none⟩ = false := frz HBx.out 2
  have t2 : Y.cell? ⟨b, 2, none⟩ = some (.int .i64 0) := by simp [World.cell?, HBx.out]
  have z3 : Y.frozen? ⟨b, 3, none⟩ = false := frz HBx.out 3
  have t3 : Y.cell? ⟨b, 3, none⟩ = some (.int .i64 0) := by simp [World.cell?, HBx.out]
  have z4 : Y.frozen? ⟨b, 4, none⟩ = false := frz HBx.out 4
  have t4 : Y.cell? ⟨b, 4, none⟩ = some (.int .i64 0) := by simp [World.cell?, HBx.out]
  have z5 : Y.frozen? ⟨b, 5, none⟩ = false := frz HBx.out 5
  have t5 : Y.cell? ⟨b, 5, none⟩ = some (.int .i64 0) := by simp [World.cell?, HBx.out]
  have z6 : Y.frozen? ⟨b, 6, none⟩ = false := frz HBx.out 6
  have t6 : Y.cell? ⟨b, 6, none⟩ = some (.slice none 0 0) := by simp [World.cell?, HBx.out]
  rw [← HY.out] at q0 q1 q2 q3 q4 q5 q6 z0 z1 z2 z3 z4 z5 z6 t0 t1 t2 t3 t4 t5 t6
  go_wp2_with fail
  rw [HY.out]
  have hb3 := put7_box (.string f.name) (.bool f.nul) (.int .i64 f.kind) (.int .i64 f.width) (.int .i64 f.id) (.int .i64 f.index) (.slice ko f.kids.length kc) HBx.out
  have k3 := put7_keeps Y b (.string f.name) (.bool f.nul) (.int .i64 f.kind) (.int .i64 f.width) (.int .i64 f.id) (.int .i64 f.index) (.slice ko f.kids.length kc)
  (try simp only [Exit.inBlock, Exit.then])
  refine bodyPost_ret (results_pf (z := .int .i64 0) (x := .int .i64 0) rfl rfl rfl rfl hb3) rfl ⟨HGY.out.trans k3 fun j hj h => by have := HB.out; omega, .inr ⟨f, a', g', ko, kc, HX.out.1, HX.out.2.1, HX.out.2.2, rfl, HKr.out.1, ?_⟩⟩
  exact (HKr.out.2.kept fun z hz => k3.block z (by have := hz.2; have := HLt.out; omega) (by have := hz.1; have := HLt.out; omega)).mono fun z hz => ⟨by have := hz.1; have := HLt.out; omega, by have := hz.2; have := HLt.out; have := k3.size; omega⟩
theorem wh_fld (T : List UInt8) : whP T (fldS T) (0, []) = bnd (.ok (0, [])) ((fieldP T D0).bind fun f => finP T (([f], []) : List FT × List (ByteArray × ByteArray))) := by
  show ((fldS T).bind (finP T)) (0, []) = ((fieldP T D0).bind fun f => finP T (([f], []) : List FT × List (ByteArray × ByteArray))) (0, [])
  unfold fldS
  rw [Pr.assoc]
  rfl
theorem whf_names {T : List UInt8} {f : FT} {a : Nat} {g : List Nat} (h : whP T (fldS T) (0, []) = .ok (([f], []), (a, g))) : g.length = nP (D0 + 1) [f] := by
  obtain ⟨x, s1, e1, e2⟩ := Pr.inv h
  obtain ⟨u, s2, e3, e4⟩ := Pr.inv e2
  cases e4
  have h1 := fldS_names e1
  have h2 : g = s1.2 := (fw_end _ _ _ _ e3).2
  rw [h2, h1]
  simp
theorem made_int (n : Nat) : (madeCells #[.int .i64 0] n).toList = List.replicate n (.int .i64 0) := by
  apply List.ext_getElem
  · simp [madeCells]
  intro i h1 h2
  simp [madeCells, Nat.mod_one]
theorem way_row {w : World} {M : Nat} {p : List Nat} (hM : w.heap[M]? = some (.cells (splice (List.replicate (p.length + 1) (.int .i64 0)) 1 (ints p)).toArray 3 (0, 0))) : IntsAt w (some ⟨M, 0, none⟩) (0 :: p) := fun _ => by
  have e : splice (List.replicate (p.length + 1) (Value.int .i64 0)) 1 (ints p) = ints (0 :: p) := by
    have hl : (ints p).length = p.length := by simp [ints]
    unfold splice
    rw [hl, List.replicate_succ, List.take_succ_cons, List.take_zero, Nat.add_comm 1 p.length, List.drop_succ_cons, List.drop_of_length_le (by simp), List.append_nil]
    simp [ints]
  rw [e] at hM
  refine ⟨M, 0, rfl, fun j hj => ?_⟩
  rw [Nat.zero_add]
  refine cell_at hM j ?_
  simp only [ints, List.getElem?_toArray, List.getElem?_map, List.getElem?_eq_getElem hj, Option.map_some]
theorem way_head {D : Nat} {f : FT} {p : List Nat} (h : Way (D + 1) [f] p) : p = 0 :: p.tail := by
  cases p with
  | nil => exact h.elim
  | cons n q =>
    have h1 : n < 1 := h.1
    obtain rfl : n = 0 := by omega
    rfl
theorem gr_pf {W V U w' : World} {p b : Nat} (hb : b = W.heap.size) (hl : b < p) (g : Gr W V) (k : KpN V U p) (k3 : Keeps U w' (fun z => z = b)) : Gr W w' :=
  (g.trans k fun j hj h => by
    rcases h with h | h
    · omega
    have := h.1; omega).trans k3 fun j hj h => by omega
theorem checkFieldR_n (S : Nat → Prop) (d : Nat) (f : FT) (ao : Option Addr) (ca : Nat) (w : World) (hr : RowAt S w d ao f.kids) (hca : f.kids.length ≤ ca) (hS : ∀ b, S b → b < w.heap.size) :
    Calls Tryz.prog 36 #[.agg #[.string f.name, .bool f.nul, .int .i64 f.kind, .int .i64 f.width, .int .i64 f.id, .int .i64 f.index, .slice ao f.kids.length ca]] w fun e w' => ∃ (er : Int) (path : List Nat) (vo : Option Addr) (wn vc : Nat) (tt : Int), e = .returned (.agg #[.int .i64 er, .slice vo wn vc, .int .i64 tt]) ∧ wn = path.tail.length ∧ Gr w w' ∧ FaultIs (0, 0) (nodes (d + 1) [f] [] false) er path tt ∧ IntsAt w' vo path.tail :=
  Calls.mono (checkFieldR_any S d f ao ca w hr hca hS) fun e w' h => by
    obtain ⟨er, p, vo, vc, tt, rfl, h1, h2, h3⟩ := h
    exact ⟨er, p, vo, _, vc, tt, rfl, rfl, h1, fault_nodes h2, h3⟩
structure QB (V U : World) (p b c : Nat) (x : FT) (ko : Option Addr) (kc : Nat) : Prop where
  rb : U.heap[b]? = some (.cells #[.string ⟨#[]⟩, .bool false, .int .i64 0, .int .i64 0, .int .i64 0, .int .i64 0, .slice none 0 0] 37 (0, 0))
  tb : U.heap[c]? = some (.cells #[.string x.name, .bool x.nul, .int .i64 x.kind, .int .i64 x.width, .int .i64 x.id, .int .i64 x.index, .slice ko x.kids.length kc] 37 (0, 0))
  lt : b < p ∧ p < V.heap.size ∧ V.heap.size ≤ c
  kp : KpN V U p
theorem QB.kpn {V U U' : World} {p b c : Nat} {x : FT} {ko : Option Addr} {kc : Nat} (h : QB V U p b c x ko kc) (k : KpN U U' p) : QB V U' p b c x ko kc :=
  ⟨(k.blk (lt_of_heap h.rb) (by have := h.lt; omega) (IntsB.of h.rb (by decide))).trans h.rb, (k.blk (lt_of_heap h.tb) (by have := h.lt; omega) (IntsB.of h.tb (by decide))).trans h.tb, h.lt, h.kp.tr k⟩
end Go.Proofs.YtkodgneneiledaaGreatDoor.Kit
