import Derived.Test.YtkodgneneiledaaGreatDoorZA
set_option maxRecDepth 100000
set_option maxHeartbeats 4000000
namespace Go.Proofs.YtkodgneneiledaaGreatDoor.Kit
open Go.RowKit Go.Shelf Go.Deep
set_option linter.unusedVariables false
attribute [local go_sem] run_store_func
theorem b3_new (W : World) (z x : Value) : B3 (((W.alloc (.cells #[.slice none 0 0, .slice none 0 0] 27)).alloc (.cells #[z] 28)).alloc (.cells #[x] 3)) W.heap.size (.slice none 0 0) (.slice none 0 0) z x ∧ (((W.alloc (.cells #[.slice none 0 0, .slice none 0 0] 27)).alloc (.cells #[z] 28)).alloc (.cells #[x] 3)).heap.size = W.heap.size + 1 + 1 + 1 ∧ Gr W (((W.alloc (.cells #[.slice none 0 0, .slice none 0 0] 27)).alloc (.cells #[z] 28)).alloc (.cells #[x] 3)) := by
  have s1 : (W.alloc (.cells #[.slice none 0 0, .slice none 0 0] 27)).heap.size = W.heap.size + 1 := by simp
  have s2 : ((W.alloc (.cells #[.slice none 0 0, .slice none 0 0] 27)).alloc (.cells #[z] 28)).heap.size = W.heap.size + 1 + 1 := by simp
  have g1 := gr_alloc W (.cells #[.slice none 0 0, .slice none 0 0] 27)
  have g2 := gr_alloc (W.alloc (.cells #[.slice none 0 0, .slice none 0 0] 27)) (.cells #[z] 28)
  have g3 := gr_alloc ((W.alloc (.cells #[.slice none 0 0, .slice none 0 0] 27)).alloc (.cells #[z] 28)) (.cells #[x] 3)
  have c1 := heap_alloc_new W (.cells #[.slice none 0 0, .slice none 0 0] 27)
  have c2 := heap_alloc_new (W.alloc (.cells #[.slice none 0 0, .slice none 0 0] 27)) (.cells #[z] 28)
  have c3 := heap_alloc_new ((W.alloc (.cells #[.slice none 0 0, .slice none 0 0] 27)).alloc (.cells #[z] 28)) (.cells #[x] 3)
  rw [s1] at c2
  rw [s2] at c3
  have g23 := g2.trans g3 (fun _ _ h => h)
  exact ⟨⟨(g23.block _ (lt_of_heap c1) id).trans c1, (g3.block _ (lt_of_heap c2) id).trans c2, c3⟩, by simp, g1.trans g23 (fun _ _ h => h)⟩
theorem names_enough {l : List FT} {L : List LS} {x : LS} {g : List Nat} (hp : L ++ [x] <+: nodes (D0 + 1) l [] false) (hg : g.length = nP (D0 + 1) l) : L.length < g.length := by
  have h1 := hp.length_le
  have h3 := congrArg List.length (nodes_pre (D0 + 1) l [] false)
  rw [List.length_map] at h3
  rw [List.length_append, List.length_singleton, h3] at h1
  rw [hg]
  exact h1
theorem own_some {W : World} {t s n : Nat} {vo : Option Addr} {vc : Nat} {xs : List Value} (h : W.ownsRow 0 t s (.slice vo n vc) n xs) (h0 : 0 < n) : ∃ gb, vo = some ⟨gb, 0, none⟩ := by
  rcases h.2 with ⟨_, e⟩ | ⟨g, cap, cur, e, _⟩
  · omega
  cases e; exact ⟨g, rfl⟩
theorem Keeps.drewL {V V' : World} {S : Nat → Prop} (h : Keeps V V' S) : Keeps V V'.drew S := h.drew
theorem B3.put {V : World} {b : Nat} {y0 y1 z x : Value} (p0 p1 q r : Value) (h : B3 V b y0 y1 z x) : B3 ((((V.setCell ⟨b, 0, none⟩ p0).setCell ⟨b, 1, none⟩ p1).setCell ⟨b + 1, 0, none⟩ q).setCell ⟨b + 1 + 1, 0, none⟩ r) b p0 p1 q r ∧ Keeps V ((((V.setCell ⟨b, 0, none⟩ p0).setCell ⟨b, 1, none⟩ p1).setCell ⟨b + 1, 0, none⟩ q).setCell ⟨b + 1 + 1, 0, none⟩ r) (fun z => z = b ∨ z = b + 1 ∨ z = b + 1 + 1) := by
  obtain ⟨h1, h2, h3, k⟩ := three_end p0 p1 q r h.sb h.eb h.ab
  exact ⟨⟨h1, h2, h3⟩, k⟩
theorem read_long (s : ByteArray) (r : RSch) (hs : 65536 < s.size) (W : World) : Calls Tryz.prog 21 #[.string s, .func (.func 22) #[] #[]] W (ParQ W s r) := by
  have HN := hidP (b3_new W (.int .i64 4) (.int .i64 65536))
  have hlt : (65536 : Int) < (s.size : Int) := by omega
  have Hs := hidP hs
  clear hs
  go_enter_defers Tryz.func21, Tryz.ntmps21
  go_wp2
  refine ⟨_, results_read rfl rfl rfl rfl HN.out.1, ?_⟩
  exact ⟨HN.out.2.2, .inl ⟨4, 65536, by decide, .inl ⟨Hs.out, rfl, rfl⟩, rfl⟩⟩
theorem read13 (s : ByteArray) (r : RSch) (hF : ∀ p, PnC p s D0 22 #[.pointer (some ⟨p, 0, none⟩)] r (SV p)) (hnn : ∀ l ns s1, r (0, []) = .ok ((l, ns), s1) → ns.length ≤ s1.1) (hnm : ∀ l ns s1, r (0, []) = .ok ((l, ns), s1) → s1.2.length = ([] : List Nat).length + nP (D0 + 1) l) (hs : s.size ≤ 65536) (W : World) (hT : Tab W) : Calls Tryz.prog 21 #[.string s, .func (.func 22) #[] #[]] W (ParQ W s r) := by
  have hmf : ∀ (fn : Go.Fn) (first cap : Array Value) (w : World), (Instr.makeFunc fn first cap).run Tryz.prog w = .ok (.func fn first cap) w := fun _ _ _ _ => rfl
  obtain ⟨hB, hz, hg⟩ := b3_new W (.int .i64 0) (.int .i64 0)
  have hlt : ¬ (65536 : Int) < (s.size : Int) := by omega
  obtain ⟨V, hV⟩ : ∃ V, (((W.alloc (.cells #[.slice none 0 0, .slice none 0 0] 27)).alloc (.cells #[.int .i64 0] 28)).alloc (.cells #[.int .i64 0] 3)).alloc (.cells #[.string s, .int .i64 0, .slice none 0 0] 87) = V := ⟨_, rfl⟩
  have g4 := gr_alloc (((W.alloc (.cells #[.slice none 0 0, .slice none 0 0] 27)).alloc (.cells #[.int .i64 0] 28)).alloc (.cells #[.int .i64 0] 3)) (.cells #[.string s, .int .i64 0, .slice none 0 0] 87)
  have c4 := heap_alloc_new (((W.alloc (.cells #[.slice none 0 0, .slice none 0 0] 27)).alloc (.cells #[.int .i64 0] 28)).alloc (.cells #[.int .i64 0] 3)) (.cells #[.string s, .int .i64 0, .slice none 0 0] 87)
  rw [hV] at g4 c4
  obtain ⟨b, hb⟩ : ∃ b, b = W.heap.size := ⟨_, rfl⟩
  rw [← hb] at hB hz
  rw [hz] at c4
  have HG : Hid (Gr W V) := hg.trans g4 fun _ _ h => h
  have HB : Hid (B3 V b (.slice none 0 0) (.slice none 0 0) (.int .i64 0) (.int .i64 0)) := hB.kp g4 fun _ h => h.elim
  have HR : Hid (NA V (b + 1 + 1 + 1) s 0 []) := ⟨none, 0, ⟨c4, hs, Nat.zero_le _⟩, World.ownsRow_nil _ _ _ _, Nat.le_refl _, fun q e => by simp [Value.ownBlock] at e, hT.gr HG.out, by omega⟩
  have HV := hidP hV
  have Hb := hidP hb
  have Hs := hidP hs
  have HT := hidP hT
  have HQ := hidP (hF (b + 1 + 1 + 1) V 0 [] HR.out (by show _ < 65537; omega))
  have HEnd := hidP ((end_any (b + 1 + 1 + 1) s).n (fw_end _) D0)
  have HNN := hidP hnn
  have HNM := hidP hnm
  clear hB hz hg g4 c4 hV hb hs hT hF hnn hnm
  go_enter_defers Tryz.func21, Tryz.ntmps21
  go_wp2_with (go_at_call 22; refine Hid.out ?_)
  unfold Hid
  rw [HV.out, ← Hb.out]
  clear HV
  rcases hr : r (0, []) with o | q
  · rw [hr] at HQ
    have HE : Hid (whP s.data.toList r (0, []) = .error o) := Pr.bind_err hr
    clear hr
    refine Calls.mono HQ.out ?_
    rintro e' U ⟨hk, rfl⟩
    have HB1 := hidP (HB.out.kpn hk)
    have HG1 : Hid (Gr W U) := HG.out.trans hk fun j hj h => by have := Hb.out; exact h.elim (fun h => by omega) fun h => by have := h.1; omega
    clear hk HR HB HG HQ
    go_wp2_with fail
    exact read_stuck Hb.out HB1.out HG1.out rfl rfl rfl Hs.out HE.out
  obtain ⟨⟨l, ns⟩, a1, g1⟩ := q
  rw [hr] at HQ
  have Hnn := hidP (HNN.out _ _ _ hr)
  have Hnm := hidP (HNM.out _ _ _ hr)
  have HP1 : Hid (whP s.data.toList r (0, []) = ((endP s.data.toList).bind fun _ => Pr.pure (l, ns)) (a1, g1)) := Pr.bind_ok hr
  clear hr
  refine Calls.mono HQ.out ?_
  rintro e' U ⟨hk, v, rfl, ⟨fo, fc, no, nc, rfl, hfc, hrow, hns⟩, hR⟩
  have hB1 := HB.out.kpn hk
  have hG1 : Gr W U := HG.out.trans hk fun j hj h => by have := Hb.out; exact h.elim (fun h => by omega) fun h => by have := h.1; omega
  have k2 := put2_keeps U b (.slice fo l.length fc) (.slice no ns.length nc)
  have q2 := put2_box (.slice fo l.length fc) (.slice no ns.length nc) hB1.sb
  obtain ⟨U1, hU1⟩ : ∃ U1, (U.setCell ⟨b, 0, none⟩ (.slice fo l.length fc)).setCell ⟨b, 1, none⟩ (.slice no ns.length nc) = U1 := ⟨_, rfl⟩
  rw [hU1] at k2 q2
  have HB2 : Hid (B3 U1 b (.slice fo l.length fc) (.slice no ns.length nc) (.int .i64 0) (.int .i64 0)) := ⟨q2, (k2.block _ (lt_of_heap hB1.eb) (by omega)).trans hB1.eb, (k2.block _ (lt_of_heap hB1.ab) (by omega)).trans hB1.ab⟩
  have HR1 := hidP (hR.kept k2 fun z h => by rw [h]; exact ⟨by omega, by have := Hb.out; have := HT.out.1; omega, fun hi => by have := hi.1; omega⟩)
  have HG2 : Hid (Gr W U1) := hG1.trans k2 fun j hj h => by have := Hb.out; omega
  have HVz : Hid (b + 1 + 1 + 1 < V.heap.size ∧ W.heap.size ≤ V.heap.size) := ⟨HR.out.lt, HG.out.size⟩
  have HL : Hid (l.length ≤ fc ∧ RowAt (NB (b + 1 + 1 + 1) V U1) U1 (D0 + 1) fo l ∧ LAt V U1 70 2 ncel ns no nc) := ⟨hfc, hrow.nb (fun z hz => k2.block z hz.2.1 (by have := hz.1; have := HVz.out; omega)) k2.size, hns.blk k2 fun z h hz hS => by have := HVz.out; omega⟩
  have t0 : U.cell? ⟨b, 0, none⟩ = some (.slice none 0 0) := by simp [World.cell?, hB1.sb]
  have t1 : U.cell? ⟨b, 1, none⟩ = some (.slice none 0 0) := by simp [World.cell?, hB1.sb]
  have z0 := frz hB1.sb 0
  have z1 := frz hB1.sb 1
  have HU1 := hidP hU1
  clear hk hR hfc hrow hns hB1 hG1 k2 q2 hU1 HB HR HQ HG
  go_wp2_with (go_at_call 49; refine Hid.out ?_)
  unfold Hid
  (try rw [HU1.out])
  clear t0 t1 z0 z1 HU1
  have hq := HEnd.out U1 a1 g1 HR1.out (by have := Hs.out; show _ < 65537; omega)
  rcases hr : endP s.data.toList (a1, g1) with o | q
  · rw [hr] at hq
    have HE : Hid (whP s.data.toList r (0, []) = .error o) := by show _ = _; rw [HP1.out]; exact Pr.bind_err hr
    clear hr
    refine Calls.mono hq ?_
    rintro e' U2 ⟨hk, rfl⟩
    have HB3 := hidP (HB2.out.kpn hk)
    have HG3 : Hid (Gr W U2) := HG2.out.trans hk fun j hj h => by have := Hb.out; exact h.elim (fun h => by omega) fun h => by have := h.1; omega
    clear hk hq HR1 HB2 HG2
    go_wp2_with fail
    exact read_stuck Hb.out HB3.out HG3.out rfl rfl rfl Hs.out HE.out
  obtain ⟨u, a2, g2⟩ := q
  rw [hr] at hq
  have HE : Hid (whP s.data.toList r (0, []) = .ok ((l, ns), (a2, g2))) := by show _ = _; rw [HP1.out]; exact Pr.bind_ok hr
  have hfe := fw_end _ _ _ _ hr
  have Hg2 : Hid (g2 = g1 ∧ a1 ≤ a2) := ⟨hfe.2, hfe.1⟩
  clear hr HP1 hfe
  refine Calls.mono hq ?_
  rintro e' U2 ⟨hk, v, rfl, hv, hR⟩
  have HB3 := hidP (HB2.out.kpn hk)
  have HG3 : Hid (Gr W U2) := HG2.out.trans hk fun j hj h => by have := Hb.out; exact h.elim (fun h => by omega) fun h => by have := h.1; omega
  have HR2 := hidP hR
  have HL2 : Hid (l.length ≤ fc ∧ RowAt (NB (b + 1 + 1 + 1) V U2) U2 (D0 + 1) fo l ∧ LAt V U2 70 2 ncel ns no nc) := ⟨HL.out.1, HL.out.2.1.nb (fun z hz => hz.kpn hk HVz.out.1) hk.size, HL.out.2.2.kpn (by decide) hk HVz.out.1⟩
  have hnb : ns.length ≤ big := by have := Hnn.out; have := Hg2.out.2; have := hR.pos; have := Hs.out; show _ ≤ 1000000000000; omega
  have HNb := hidP hnb
  have HLk := hidP (look_walk (NB (b + 1 + 1 + 1) V U2) (D0 + 1) fo no fc nc l ns U2 (HT.out.gr HG3.out) HL2.out.2.1 HL2.out.1 (by show 65538 ≤ 1000000000000; omega) (fun z h => h.2.1) (notes_of HL2.out.2.2 hnb))
  have t0 : U2.cell? ⟨b, 0, none⟩ = some (.slice fo l.length fc) := by simp [World.cell?, HB3.out.sb]
  have t1 : U2.cell? ⟨b, 1, none⟩ = some (.slice no ns.length nc) := by simp [World.cell?, HB3.out.sb]
  clear hk hq hR HR1 HB2 HG2 HL hnb
  go_wp2_with (go_at_call 37; refine Hid.out ?_)
  unfold Hid
  clear t0 t1
  have hq := HLk.out
  unfold schV at hq
  refine Calls.mono hq ?_
  rintro e' U3 ⟨hk, h1 | h2 | h3⟩
  · obtain ⟨hE1, rfl⟩ := h1
    obtain ⟨E1, hE⟩ : ∃ z, z = (listsE l.length ns).1 := ⟨_, rfl⟩
    obtain ⟨E2, hE2⟩ : ∃ z, z = (listsE l.length ns).2 := ⟨_, rfl⟩
    rw [← hE, ← hE2]
    rw [← hE] at hE1
    have HE1 := hidP hE1
    have He := hidP hE
    have hne : (E1 == 0) = false := beq_eq_false_iff_ne.2 hE1
    clear hE1 hE hE2
    have gX := hk.trans (gr_alloc U3 (.cells #[.int .i64 E1, .slice none 0 0, .int .i64 E2] 46)) (fun _ _ h => h)
    have hB := HB3.out.kp gX fun _ h => h.elim
    have HGX : Hid (Gr W (U3.alloc (.cells #[.int .i64 E1, .slice none 0 0, .int .i64 E2] 46))) := HG3.out.trans gX fun _ _ h => h
    have x0 : (U3.alloc (.cells #[.int .i64 E1, .slice none 0 0, .int .i64 E2] 46)).cell? ⟨b, 0, none⟩ = some (.slice fo l.length fc) := by simp [World.cell?, hB.sb]
    have x1 : (U3.alloc (.cells #[.int .i64 E1, .slice none 0 0, .int .i64 E2] 46)).cell? ⟨b, 1, none⟩ = some (.slice no ns.length nc) := by simp [World.cell?, hB.sb]
    have x2 : (U3.alloc (.cells #[.int .i64 E1, .slice none 0 0, .int .i64 E2] 46)).cell? ⟨b + 1, 0, none⟩ = some (.int .i64 0) := by simp [World.cell?, hB.eb]
    have x3 : (U3.alloc (.cells #[.int .i64 E1, .slice none 0 0, .int .i64 E2] 46)).cell? ⟨b + 1 + 1, 0, none⟩ = some (.int .i64 0) := by simp [World.cell?, hB.ab]
    have f0 := frz hB.sb 0
    have f1 := frz hB.sb 1
    have f2 := frz hB.eb 0
    have f3 := frz hB.ab 0
    have n1 : ¬ b + 1 = b := by omega
    have n2 : ¬ b + 1 + 1 = b := by omega
    have n3 : ¬ b + 1 + 1 = b + 1 := by omega
    have hql : b + 1 + 1 < U3.heap.size := Nat.lt_of_lt_of_le (lt_of_heap HB3.out.ab) hk.size
    have n4 : ¬ U3.heap.size = b := by omega
    have n5 : ¬ U3.heap.size = b + 1 := by omega
    have n6 : ¬ U3.heap.size = b + 1 + 1 := by omega
    have q0 : (U3.alloc (.cells #[.int .i64 E1, .slice none 0 0, .int .i64 E2] 46)).cell? ⟨U3.heap.size, 0, none⟩ = some (.int .i64 E1) := (cell3 (heap_alloc_new U3 (.cells #[.int .i64 E1, .slice none 0 0, .int .i64 E2] 46))).1
    have HF := hidP (hB.put (.slice none 0 0) (.slice none 0 0) (.int .i64 E1) (.int .i64 0))
    have HgX := hidP gX
    clear hB gX hk hq HLk HB3 HG3
    (try unfold fltV)
    go_wp2_with fail
    go_region
    (try go_wp2_with fail)
    refine leaves_cons (f := 48) (args := #[.pointer (some ⟨b, 0, none⟩), .pointer (some ⟨b + 1, 0, none⟩), .pointer (some ⟨b + 1 + 1, 0, none⟩)]) (by simp) (by simp [go_sem]) ?_
    refine (catch_idle ⟨b, 0, none⟩ ⟨b + 1, 0, none⟩ ⟨b + 1 + 1, 0, none⟩ _).mono ?_
    rintro e u' w' ⟨rfl, rfl, rfl⟩
    have HB9 : B3 (((((U3.alloc (.cells #[.int .i64 E1, .slice none 0 0, .int .i64 E2] 46)).drew.setCell ⟨b, 0, none⟩ (.slice none 0 0)).setCell ⟨b, 1, none⟩ (.slice none 0 0)).setCell ⟨b + 1, 0, none⟩ (.int .i64 E1)).setCell ⟨b + 1 + 1, 0, none⟩ (.int .i64 0)) b (.slice none 0 0) (.slice none 0 0) (.int .i64 E1) (.int .i64 0) := ⟨HF.out.1.sb, HF.out.1.eb, HF.out.1.ab⟩
    have HK9 : Keeps (U3.alloc (.cells #[.int .i64 E1, .slice none 0 0, .int .i64 E2] 46)) (((((U3.alloc (.cells #[.int .i64 E1, .slice none 0 0, .int .i64 E2] 46)).drew.setCell ⟨b, 0, none⟩ (.slice none 0 0)).setCell ⟨b, 1, none⟩ (.slice none 0 0)).setCell ⟨b + 1, 0, none⟩ (.int .i64 E1)).setCell ⟨b + 1 + 1, 0, none⟩ (.int .i64 0)) (fun z => z = b ∨ z = b + 1 ∨ z = b + 1 + 1) := HF.out.2.drewL
    refine ⟨_, results_read (fn := Tryz.f21) rfl rfl rfl rfl HB9, ?_⟩
    exact ⟨HGX.out.trans HK9 fun j hj h => by have := Hb.out; omega, .inl ⟨E1, 0, HE1.out, .inr (.inr ⟨Hs.out, l, ns, a2, g2, HE.out, .inl ⟨by rw [← He.out]; exact HE1.out, He.out, rfl⟩⟩), rfl⟩⟩
  · obtain ⟨hE0, hA, rfl⟩ := h2
    have HE0 := hidP hE0
    have HA := hidP hA
    clear hE0 hA
    have gX := hk.trans (gr_alloc U3 (.cells #[.int .i64 0, .slice none 0 0, .int .i64 0] 46)) (fun _ _ h => h)
    have hB := HB3.out.kp gX fun _ h => h.elim
    have HGX : Hid (Gr W (U3.alloc (.cells #[.int .i64 0, .slice none 0 0, .int .i64 0] 46))) := HG3.out.trans gX fun _ _ h => h
    have x0 : (U3.alloc (.cells #[.int .i64 0, .slice none 0 0, .int .i64 0] 46)).cell? ⟨b, 0, none⟩ = some (.slice fo l.length fc) := by simp [World.cell?, hB.sb]
    have x1 : (U3.alloc (.cells #[.int .i64 0, .slice none 0 0, .int .i64 0] 46)).cell? ⟨b, 1, none⟩ = some (.slice no ns.length nc) := by simp [World.cell?, hB.sb]
    have x2 : (U3.alloc (.cells #[.int .i64 0, .slice none 0 0, .int .i64 0] 46)).cell? ⟨b + 1, 0, none⟩ = some (.int .i64 0) := by simp [World.cell?, hB.eb]
    have x3 : (U3.alloc (.cells #[.int .i64 0, .slice none 0 0, .int .i64 0] 46)).cell? ⟨b + 1 + 1, 0, none⟩ = some (.int .i64 0) := by simp [World.cell?, hB.ab]
    have f0 := frz hB.sb 0
    have f1 := frz hB.sb 1
    have f2 := frz hB.eb 0
    have f3 := frz hB.ab 0
    have n1 : ¬ b + 1 = b := by omega
    have n2 : ¬ b + 1 + 1 = b := by omega
    have n3 : ¬ b + 1 + 1 = b + 1 := by omega
    have hql : b + 1 + 1 < U3.heap.size := Nat.lt_of_lt_of_le (lt_of_heap HB3.out.ab) hk.size
    have n4 : ¬ U3.heap.size = b := by omega
    have n5 : ¬ U3.heap.size = b + 1 := by omega
    have n6 : ¬ U3.heap.size = b + 1 + 1 := by omega
    have q0 : (U3.alloc (.cells #[.int .i64 0, .slice none 0 0, .int .i64 0] 46)).cell? ⟨U3.heap.size, 0, none⟩ = some (.int .i64 0) := (cell3 (heap_alloc_new U3 (.cells #[.int .i64 0, .slice none 0 0, .int .i64 0] 46))).1
    have HF := hidP (hB.put (.slice fo l.length fc) (.slice no ns.length nc) (.int .i64 0) (.int .i64 0))
    have HgX := hidP gX
    clear hB gX hk hq HLk HB3 HG3
    (try unfold fltV)
    go_wp2_with fail
    refine leaves_cons (f := 48) (args := #[.pointer (some ⟨b, 0, none⟩), .pointer (some ⟨b + 1, 0, none⟩), .pointer (some ⟨b + 1 + 1, 0, none⟩)]) (by simp) (by simp [go_sem]) ?_
    refine (catch_idle ⟨b, 0, none⟩ ⟨b + 1, 0, none⟩ ⟨b + 1 + 1, 0, none⟩ _).mono ?_
    rintro e u' w' ⟨rfl, rfl, rfl⟩
    have HB9 : B3 (((((U3.alloc (.cells #[.int .i64 0, .slice none 0 0, .int .i64 0] 46)).setCell ⟨b, 0, none⟩ (.slice fo l.length fc)).setCell ⟨b, 1, none⟩ (.slice no ns.length nc)).setCell ⟨b + 1, 0, none⟩ (.int .i64 0)).setCell ⟨b + 1 + 1, 0, none⟩ (.int .i64 0)) b (.slice fo l.length fc) (.slice no ns.length nc) (.int .i64 0) (.int .i64 0) := ⟨HF.out.1.sb, HF.out.1.eb, HF.out.1.ab⟩
    have HK9 : Keeps (U3.alloc (.cells #[.int .i64 0, .slice none 0 0, .int .i64 0] 46)) (((((U3.alloc (.cells #[.int .i64 0, .slice none 0 0, .int .i64 0] 46)).setCell ⟨b, 0, none⟩ (.slice fo l.length fc)).setCell ⟨b, 1, none⟩ (.slice no ns.length nc)).setCell ⟨b + 1, 0, none⟩ (.int .i64 0)).setCell ⟨b + 1 + 1, 0, none⟩ (.int .i64 0)) (fun z => z = b ∨ z = b + 1 ∨ z = b + 1 + 1) := HF.out.2
    refine ⟨_, results_read (fn := Tryz.f21) rfl rfl rfl rfl HB9, ?_⟩
    have kL : Keeps U2 _ (fun z => z = b ∨ z = b + 1 ∨ z = b + 1 + 1) := (HgX.out.mono fun _ _ h => h.elim).trans HK9 fun _ _ h => h
    refine ⟨HGX.out.trans HK9 fun j hj h => by have := Hb.out; omega, .inr ⟨l, ns, a2, g2, fo, fc, no, nc, Hs.out, HE.out, HE0.out, HA.out, HNb.out, rfl, HL2.out.1, ?_, ?_⟩⟩
    · exact ((HL2.out.2.1.nb (fun z hz => kL.block z hz.2.1 (by have := hz.1; have := HVz.out; omega)) kL.size).low HVz.out.2).mono fun z hz => ⟨hz.1, hz.2.1⟩
    exact (HL2.out.2.2.blk kL fun z h hz hS => by have := HVz.out; omega).low HVz.out.2
  obtain ⟨hE0, L, x, po, pc, hpre, hAL, hw, rfl, hown, hnw⟩ := h3
  obtain ⟨E1, hE⟩ : ∃ z, z = wrongE x L.length (tkL L) := ⟨_, rfl⟩
  obtain ⟨pn, hpn⟩ : ∃ z, z = x.path.length := ⟨_, rfl⟩
  rw [← hE, ← hpn]
  have hx0 : 0 < pn := by rw [hpn]; exact node_way _ _ _ _ x (hpre.subset (by simp))
  have hlen : L.length < g2.length := names_enough hpre (by rw [Hg2.out.1]; have := Hnm.out; simpa using this)
  have hne : (E1 == 0) = false := beq_eq_false_iff_ne.2 (by rw [hE]; exact hw)
  have hpne : ((pn : Int) == 0) = false := beq_eq_false_iff_ne.2 (by omega)
  obtain ⟨vo, vc, hNA⟩ := HR2.out
  obtain ⟨gb, egb⟩ := own_some hNA.own (by omega)
  subst egb
  have hpr := hNA.tat.box
  have hgc := hNA.own.cellAt L.length (by omega)
  have HW1 : Hid (wrongE x L.length (tkL L) ≠ 0 ∧ E1 = wrongE x L.length (tkL L) ∧ (listsE l.length ns).1 = 0 ∧ L ++ [x] <+: nodes (D0 + 1) l [] false ∧ AllR L) := ⟨hw, hE, hE0, hpre, hAL⟩
  obtain ⟨i, hi⟩ : ∃ i, i = L.length := ⟨_, rfl⟩
  rw [← hi] at hlen hgc ⊢
  have Hi := hidP hi
  obtain ⟨y, hy⟩ : ∃ y, y = g2.getD i 0 := ⟨_, rfl⟩
  have hgy : U2.cell? ⟨gb, i, none⟩ = some (.int .i64 (y : Int)) := by rw [hgc, hy]; simp [ints, List.getElem?_eq_getElem hlen, List.getD_eq_getElem?_getD]
  have Hy := hidP hy
  have hiI : (i : Int) < (g2.length : Int) := by omega
  have hi0 : (0 : Int) ≤ (i : Int) := by omega
  obtain ⟨m, hm⟩ : ∃ m, m = g2.length := ⟨_, rfl⟩
  rw [← hm] at hiI hpr
  have gX := hk.trans (gr_alloc U3 (.cells #[.int .i64 E1, .slice po pn pc, .int .i64 0] 46)) (fun _ _ h => h)
  have hB := HB3.out.kp gX fun _ h => h.elim
  have HGX : Hid (Gr W (U3.alloc (.cells #[.int .i64 E1, .slice po pn pc, .int .i64 0] 46))) := HG3.out.trans gX fun _ _ h => h
  have x0 : (U3.alloc (.cells #[.int .i64 E1, .slice po pn pc, .int .i64 0] 46)).cell? ⟨b, 0, none⟩ = some (.slice fo l.length fc) := by simp [World.cell?, hB.sb]
  have x1 : (U3.alloc (.cells #[.int .i64 E1, .slice po pn pc, .int .i64 0] 46)).cell? ⟨b, 1, none⟩ = some (.slice no ns.length nc) := by simp [World.cell?, hB.sb]
  have x2 : (U3.alloc (.cells #[.int .i64 E1, .slice po pn pc, .int .i64 0] 46)).cell? ⟨b + 1, 0, none⟩ = some (.int .i64 0) := by simp [World.cell?, hB.eb]
  have x3 : (U3.alloc (.cells #[.int .i64 E1, .slice po pn pc, .int .i64 0] 46)).cell? ⟨b + 1 + 1, 0, none⟩ = some (.int .i64 0) := by simp [World.cell?, hB.ab]
  have f0 := frz hB.sb 0
  have f1 := frz hB.sb 1
  have f2 := frz hB.eb 0
  have f3 := frz hB.ab 0
  have n1 : ¬ b + 1 = b := by omega
  have n2 : ¬ b + 1 + 1 = b := by omega
  have n3 : ¬ b + 1 + 1 = b + 1 := by omega
  have hql : b + 1 + 1 < U3.heap.size := Nat.lt_of_lt_of_le (lt_of_heap HB3.out.ab) hk.size
  have n4 : ¬ U3.heap.size = b := by omega
  have n5 : ¬ U3.heap.size = b + 1 := by omega
  have n6 : ¬ U3.heap.size = b + 1 + 1 := by omega
  have q0 : (U3.alloc (.cells #[.int .i64 E1, .slice po pn pc, .int .i64 0] 46)).cell? ⟨U3.heap.size, 0, none⟩ = some (.int .i64 E1) := (cell3 (heap_alloc_new U3 (.cells #[.int .i64 E1, .slice po pn pc, .int .i64 0] 46))).1
  have y2 : (U3.alloc (.cells #[.int .i64 E1, .slice po pn pc, .int .i64 0] 46)).cell? ⟨b + 1 + 1 + 1, 2, none⟩ = some (.slice (some ⟨gb, 0, none⟩) m vc) := by have := (gX.block _ (lt_of_heap hpr) id).trans hpr; simp [World.cell?, this]
  have y3 : (U3.alloc (.cells #[.int .i64 E1, .slice po pn pc, .int .i64 0] 46)).cell? ⟨gb, i, none⟩ = some (.int .i64 (y : Int)) := gX.cell' hgy id
  have hgn := hNA.new gb rfl
  have n7 : ¬ gb = b := by omega
  have n8 : ¬ gb = b + 1 := by omega
  have n9 : ¬ gb = b + 1 + 1 := by omega
  have m1 : ¬ b + 1 + 1 + 1 = b := by omega
  have m2 : ¬ b + 1 + 1 + 1 = b + 1 := by omega
  have m3 : ¬ b + 1 + 1 + 1 = b + 1 + 1 := by omega
  clear hgn
  have HF := hidP (hB.put (.slice none 0 0) (.slice none 0 0) (.int .i64 E1) (.int .i64 (y : Int)))
  have HgX := hidP gX
  clear hB gX hk hq HLk HB3 HG3 hE hpn hpre hAL hw hown hnw hx0 hlen hE0 hNA hpr hgc hgy hi hy hm
  (try unfold fltV)
  go_wp2_with fail
  generalize hX : U3.alloc (.cells #[.int .i64 E1, .slice po pn pc, .int .i64 0] 46) = X at x0 x1 x2 x3 f0 f1 f2 f3 q0 y2 y3 HF HGX HgX ⊢
  generalize hq : U3.heap.size = q at q0 n4 n5 n6 ⊢
  clear hX hq hql
  have HSC : Hid (∀ w', Keeps X w' (fun z => z = b ∨ z = b + 1 ∨ z = b + 1 + 1) → w'.cell? ⟨q, 0, none⟩ = some (.int .i64 E1) ∧ w'.cell? ⟨b + 1 + 1 + 1, 2, none⟩ = some (.slice (some ⟨gb, 0, none⟩) m vc) ∧ w'.cell? ⟨gb, i, none⟩ = some (.int .i64 (y : Int))) := fun w' k => ⟨k.cell' q0 (by show ¬ (q = b ∨ q = b + 1 ∨ q = b + 1 + 1); omega), k.cell' y2 (by show ¬ (b + 1 + 1 + 1 = b ∨ b + 1 + 1 + 1 = b + 1 ∨ b + 1 + 1 + 1 = b + 1 + 1); omega), k.cell' y3 (by show ¬ (gb = b ∨ gb = b + 1 ∨ gb = b + 1 + 1); omega)⟩
  have K0 : Keeps X X.drew (fun z => z = b ∨ z = b + 1 ∨ z = b + 1 + 1) := (Keeps.refl X _).drew
  have K1 := (K0.setCell (p := ⟨b, 0, none⟩) (fun _ => .inl rfl) (.slice none 0 0)).setCell (p := ⟨b, 1, none⟩) (fun _ => .inl rfl) (.slice none 0 0)
  have K2 := K1.setCell (p := ⟨b + 1, 0, none⟩) (fun _ => .inr (.inl rfl)) (.int .i64 E1)
  have K3 := K2.setCell (p := ⟨b + 1 + 1, 0, none⟩) (fun _ => .inr (.inr rfl)) (.int .i64 (y : Int))
  have HK0 := hidP K0
  have HK1 := hidP K1
  have HK2 := hidP K2
  have HK3 := hidP K3
  clear K0 K1 K2 K3 q0 y2 y3
  refine wp_region_noPanic ?_
  refine wp_region_held_drew (S := fun w' => w'.cell? ⟨q, 0, none⟩ = some (.int .i64 E1) ∧ w'.cell? ⟨b + 1 + 1 + 1, 2, none⟩ = some (.slice (some ⟨gb, 0, none⟩) m vc) ∧ w'.cell? ⟨gb, i, none⟩ = some (.int .i64 (y : Int))) (by kernel_rfl) (HSC.out _ HK0.out) (fun hHeld => ?_)
  refine tk (i := 0) (oi := { dst := some 41, op := Op.build 27 #[], type := 27, pos := "parse.go:57", after := #[], guard := none }) (v := ?v0w1) rfl (Or.inl ⟨by rfl, ?y0w1⟩) ?r0w1
  case y0w1 => (intro w hSw; obtain ⟨q0, y2, y3⟩ := hSw; go_simp; (try with_reducible rfl))
  try simp only [Act.put]; try simp only [lA]; try simp only [lB]; try simp only [lC]
  refine tk (i := 1) (oi := { dst := some 42, op := Op.fieldAddr 46 (Operand.tmp 8) 0, type := 0, pos := "parse.go:57", after := #[], guard := none }) (v := ?v1w2) rfl (Or.inl ⟨by rfl, ?y1w2⟩) ?r1w2
  case y1w2 => (intro w hSw; obtain ⟨q0, y2, y3⟩ := hSw; go_simp; (try with_reducible rfl))
  try simp only [Act.put]; try simp only [lA]; try simp only [lB]; try simp only [lC]
  refine tk (i := 2) (oi := { dst := some 43, op := Op.load 28 (Operand.tmp 42), type := 28, pos := "parse.go:57", after := #[{ on := 1, ground := Ground.data }], guard := none }) (v := ?v2w3) rfl (Or.inl ⟨by rfl, ?y2w3⟩) ?r2w3
  case y2w3 => (intro w hSw; obtain ⟨q0, y2, y3⟩ := hSw; go_simp; (try with_reducible rfl))
  try simp only [Act.put]; try simp only [lA]; try simp only [lB]; try simp only [lC]
  refine tk (i := 3) (oi := { dst := some 44, op := Op.move (Operand.tmp 7), type := 57, pos := "parse.go:57", after := #[], guard := none }) (v := ?v3w4) rfl (Or.inl ⟨by rfl, ?y3w4⟩) ?r3w4
  case y3w4 => (intro w hSw; obtain ⟨q0, y2, y3⟩ := hSw; go_simp; (try with_reducible rfl))
  try simp only [Act.put]; try simp only [lA]; try simp only [lB]; try simp only [lC]
  refine tk (i := 4) (oi := { dst := some 45, op := Op.nilCheck (Operand.tmp 44), type := 0, pos := "parse.go:57", after := #[{ on := 3, ground := Ground.data }], guard := none }) (v := ?v4w5) rfl (Or.inl ⟨by rfl, ?y4w5⟩) ?r4w5
  case y4w5 => (intro w hSw; obtain ⟨q0, y2, y3⟩ := hSw; go_simp; (try with_reducible rfl))
  try simp only [Act.put]; try simp only [lA]; try simp only [lB]; try simp only [lC]
  refine tk (i := 5) (oi := { dst := some 46, op := Op.fieldAddr 87 (Operand.tmp 45) 2, type := 0, pos := "parse.go:57", after := #[{ on := 4, ground := Ground.data }], guard := none }) (v := ?v5w6) rfl (Or.inl ⟨by rfl, ?y5w6⟩) ?r5w6
  case y5w6 => (intro w hSw; obtain ⟨q0, y2, y3⟩ := hSw; go_simp; (try with_reducible rfl))
  try simp only [Act.put]; try simp only [lA]; try simp only [lB]; try simp only [lC]
  refine tk (i := 6) (oi := { dst := some 47, op := Op.load 44 (Operand.tmp 46), type := 44, pos := "parse.go:57", after := #[{ on := 5, ground := Ground.data }], guard := none }) (v := ?v6w7) rfl (Or.inl ⟨by rfl, ?y6w7⟩) ?r6w7
  case y6w7 => (intro w hSw; obtain ⟨q0, y2, y3⟩ := hSw; go_simp; (try with_reducible rfl))
  try simp only [Act.put]; try simp only [lA]; try simp only [lB]; try simp only [lC]
  refine tk (i := 7) (oi := { dst := some 48, op := Op.move (Operand.tmp 9), type := 3, pos := "parse.go:57", after := #[], guard := none }) (v := ?v7w8) rfl (Or.inl ⟨by rfl, ?y7w8⟩) ?r7w8
  case y7w8 => (intro w hSw; obtain ⟨q0, y2, y3⟩ := hSw; go_simp; (try with_reducible rfl))
  try simp only [Act.put]; try simp only [lA]; try simp only [lB]; try simp only [lC]
  refine tk (i := 8) (oi := { dst := some 49, op := Op.indexAddr 44 (Operand.tmp 47) (Operand.tmp 48), type := 0, pos := "parse.go:57", after := #[{ on := 6, ground := Ground.data }, { on := 7, ground := Ground.data }], guard := none }) (v := ?v8w9) rfl (Or.inl ⟨by rfl, ?y8w9⟩) ?r8w9
  case y8w9 => (intro w hSw; obtain ⟨q0, y2, y3⟩ := hSw; go_simp; (try with_reducible rfl))
  try simp only [Act.put]; try simp only [lA]; try simp only [lB]; try simp only [lC]
  refine tk (i := 9) (oi := { dst := some 50, op := Op.load 3 (Operand.tmp 49), type := 3, pos := "parse.go:57", after := #[{ on := 8, ground := Ground.data }], guard := none }) (v := ?v9w10) rfl (Or.inl ⟨by rfl, ?y9w10⟩) ?r9w10
  case y9w10 => (intro w hSw; obtain ⟨q0, y2, y3⟩ := hSw; go_simp; (try with_reducible rfl))
  try simp only [Act.put]; try simp only [lA]; try simp only [lB]; try simp only [lC]
  refine rd1 10 rfl fun Kc hK => ?_
  go_simp
  refine hK.out _ _ (HSC.out _ HK1.out) (fun hHeld => ?_)
  clear hK Kc
  try simp only [Act.put]; try simp only [lA]; try simp only [lB]; try simp only [lC]
  refine rd1 11 rfl fun Kc hK => ?_
  go_simp
  refine hK.out _ _ (HSC.out _ HK2.out) (fun hHeld => ?_)
  clear hK Kc
  try simp only [Act.put]; try simp only [lA]; try simp only [lB]; try simp only [lC]
  refine rd1 12 rfl fun Kc hK => ?_
  go_simp
  refine hK.out _ _ (HSC.out _ HK3.out) (fun hHeld => ?_)
  clear hK Kc
  try simp only [Act.put]; try simp only [lA]; try simp only [lB]; try simp only [lC]
  refine wpAnyH_done (by kernel_rfl) ?_ _
  refine NoPanic.normal ?_
  clear hHeld
  (try go_wp2_with fail)
  refine leaves_cons (f := 48) (args := #[.pointer (some ⟨b, 0, none⟩), .pointer (some ⟨b + 1, 0, none⟩), .pointer (some ⟨b + 1 + 1, 0, none⟩)]) (by simp) (by simp [go_sem]) ?_
  refine (catch_idle ⟨b, 0, none⟩ ⟨b + 1, 0, none⟩ ⟨b + 1 + 1, 0, none⟩ _).mono ?_
  rintro e u' w' ⟨rfl, rfl, rfl⟩
  have HB9 : B3 ((((X.drew.setCell ⟨b, 0, none⟩ (.slice none 0 0)).setCell ⟨b, 1, none⟩ (.slice none 0 0)).setCell ⟨b + 1, 0, none⟩ (.int .i64 E1)).setCell ⟨b + 1 + 1, 0, none⟩ (.int .i64 (y : Int))) b (.slice none 0 0) (.slice none 0 0) (.int .i64 E1) (.int .i64 (y : Int)) := ⟨HF.out.1.sb, HF.out.1.eb, HF.out.1.ab⟩
  have HK9 : Keeps X ((((X.drew.setCell ⟨b, 0, none⟩ (.slice none 0 0)).setCell ⟨b, 1, none⟩ (.slice none 0 0)).setCell ⟨b + 1, 0, none⟩ (.int .i64 E1)).setCell ⟨b + 1 + 1, 0, none⟩ (.int .i64 (y : Int))) (fun z => z = b ∨ z = b + 1 ∨ z = b + 1 + 1) := HF.out.2.drewL
  refine ⟨_, results_read (fn := Tryz.f21) rfl rfl rfl rfl HB9, ?_⟩
  exact ⟨HGX.out.trans HK9 fun j hj h => by have := Hb.out; omega, .inl ⟨E1, y, by rw [HW1.out.2.1]; exact HW1.out.1, .inr (.inr ⟨Hs.out, l, ns, a2, g2, HE.out, .inr ⟨HW1.out.2.2.1, L, x, HW1.out.2.2.2.1, HW1.out.2.2.2.2, HW1.out.1, HW1.out.2.1, by rw [Hy.out, Hi.out]⟩⟩), rfl⟩⟩
end Go.Proofs.YtkodgneneiledaaGreatDoor.Kit
