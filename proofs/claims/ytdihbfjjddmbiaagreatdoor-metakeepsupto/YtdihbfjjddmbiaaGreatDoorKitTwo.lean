import Derived.Test.YtdihbfjjddmbiaaGreatDoorRB
import Derived.Test.YtdihbfjjddmbiaaGreatDoorRX
set_option maxRecDepth 100000
set_option maxHeartbeats 4000000
namespace Go.Proofs.YtdihbfjjddmbiaaGreatDoor.Kit
open Go.RowKit Go.Shelf Go.Deep
set_option linter.unusedVariables false
attribute [local go_sem] run_store_func
theorem node_any (p : Nat) (bo : Option Addr) (B : List UInt8) (bc : Nat) : RdC p bo B bc 80 #[.pointer (some ⟨p, 0, none⟩)] (nodeR B) (fun _ _ x v => v = .agg #[.int .i64 x.1, .int .i64 x.2]) := by
  intro W a00 g00 hR00
  obtain ⟨R, hRes⟩ : ∃ R, R = nodeR B (a00, g00) := ⟨_, rfl⟩
  rw [← hRes]
  have HRes := hidM hRes
  obtain ⟨V0, hV0⟩ := ex (W.alloc (.cells #[.int .i64 0, .int .i64 0] 44))
  have g0' : Gr W V0 := by rw [← hV0]; exact gr_alloc W _
  have HBx0 : Hid (V0.heap[W.heap.size]? = some (.cells #[.int .i64 0, .int .i64 0] 44 (0, 0))) := by show _ = _; rw [← hV0]; exact heap_alloc_new W _
  have HR00 := hidM hR00
  have HR0 := hidM (hR00.gr g0')
  have HG0 : Hid (Keeps W V0 (fun z => z = p)) := g0'.mono fun _ _ h => h.elim
  have HV := hidM hV0
  have hne : p < W.heap.size := hR00.lt
  have HNe := hidM hne
  have HN := hidM (number_any p bo B bc 4 (.inr (.inr rfl)))
  obtain ⟨a0, ha0⟩ : ∃ a0, a0 = a00 := ⟨_, rfl⟩
  obtain ⟨g0, hg0⟩ : ∃ g0, g0 = g00 := ⟨_, rfl⟩
  rw [← ha0, ← hg0] at HR00 HR0 HRes
  obtain ⟨b, hb⟩ : ∃ b, b = W.heap.size := ⟨_, rfl⟩
  clear hRes g0' hR00 hV0 ha0 hg0 hne
  go_enter Tryz.func80, Tryz.ntmps80
  go_wp2_with (go_at_call 77; refine Hid.out ?_)
  unfold Hid
  rw [HV.out, ← hb]
  rw [← hb] at HBx0 HNe
  have HB := hidM hb
  clear HV hb
  have hq := HN.out _ _ _ HR0.out
  cases hr : numR B 4 (a0, g0) with
  | error er =>
    rw [hr] at hq
    refine Calls.mono hq ?_
    rintro e' U ⟨hk, rfl⟩
    have HGe := hidM (HG0.out.tr hk)
    have Hr := hidM hr
    clear hk hq hr
    go_wp2_with fail
    exact ⟨rfl, RdQ.err HGe.out (by rw [HRes.out]; exact Rd.bind_err Hr.out)⟩
  | ok q =>
    obtain ⟨x1, a1, g1⟩ := q
    rw [hr] at hq
    refine Calls.mono hq ?_
    rintro e' U1 ⟨hk, v, rfl, rfl, hR⟩
    have HBx1 := hidM ((hk.block b (lt_of_heap HBx0.out) (by have := HNe.out; omega)).trans HBx0.out)
    have HG1 := hidM (HG0.out.tr hk)
    have HR1 := hidM hR
    have Hr1 := hidM hr
    clear hk hq hr hR HBx0
    go_wp2_with (go_at_call 77; refine Hid.out ?_)
    unfold Hid
    have hq := HN.out _ _ _ HR1.out
    cases hr : numR B 4 (a1, g1) with
    | error er =>
      rw [hr] at hq
      refine Calls.mono hq ?_
      rintro e' U ⟨hk, rfl⟩
      have HGe := hidM (HG1.out.tr hk)
      have Hr := hidM hr
      clear hk hq hr
      go_wp2_with fail
      exact ⟨rfl, RdQ.err HGe.out (by rw [HRes.out]; exact (Rd.bind_ok Hr1.out).trans (Rd.bind_err Hr.out))⟩
    | ok q =>
      obtain ⟨x2, a2, g2⟩ := q
      rw [hr] at hq
      refine Calls.mono hq ?_
      rintro e' U2 ⟨hk, v, rfl, rfl, hR⟩
      have HBx2 := hidM ((hk.block b (lt_of_heap HBx1.out) (by have := HNe.out; omega)).trans HBx1.out)
      have HG2 := hidM (HG1.out.tr hk)
      have HR2 := hidM hR
      have Hr2 := hidM hr
      clear hk hq hr hR HBx1
      obtain ⟨z0, z1⟩ := fz2 HBx2.out
      obtain ⟨t0, t1⟩ := ce2 HBx2.out
      go_wp2_with fail
      have hb3 := put2_box (.int .i64 (x1 : Int)) (.int .i64 (x2 : Int)) HBx2.out
      have k3 := put2_keeps U2 b (.int .i64 (x1 : Int)) (.int .i64 (x2 : Int))
      have kW := HG2.out.trans k3 (fun j hj h => by have := HB.out; omega)
      have hE : R = .ok (((x1 : Int), (x2 : Int)), (a2, g2)) := by rw [HRes.out]; exact (Rd.bind_ok Hr1.out).trans ((Rd.bind_ok Hr2.out).trans (rfl))
      (try simp only [Exit.inBlock, Exit.then])
      exact bodyPost_ret (results_cell62 rfl rfl hb3 (by kernel_rfl)) rfl (RdQ.ok kW hE rfl (RAt.over HR00.out HR2.out kW (k3.block p (lt_of_heap HR2.out.box) (by have := HNe.out; omega))))
theorem slot_any (p : Nat) (bo : Option Addr) (B : List UInt8) (bc : Nat) : RdC p bo B bc 82 #[.pointer (some ⟨p, 0, none⟩)] (slotR B) (fun _ _ x v => v = .agg #[.int .i64 x.1, .int .i64 x.2.1, .int .i64 x.2.2]) := by
  intro W a00 g00 hR00
  obtain ⟨R, hRes⟩ : ∃ R, R = slotR B (a00, g00) := ⟨_, rfl⟩
  rw [← hRes]
  have HRes := hidM hRes
  obtain ⟨V0, hV0⟩ := ex (W.alloc (.cells #[.int .i64 0, .int .i64 0, .int .i64 0] 46))
  have g0' : Gr W V0 := by rw [← hV0]; exact gr_alloc W _
  have HBx0 : Hid (V0.heap[W.heap.size]? = some (.cells #[.int .i64 0, .int .i64 0, .int .i64 0] 46 (0, 0))) := by show _ = _; rw [← hV0]; exact heap_alloc_new W _
  have HR00 := hidM hR00
  have HR0 := hidM (hR00.gr g0')
  have HG0 : Hid (Keeps W V0 (fun z => z = p)) := g0'.mono fun _ _ h => h.elim
  have HV := hidM hV0
  have hne : p < W.heap.size := hR00.lt
  have HNe := hidM hne
  have HN := hidM (number_any p bo B bc 4 (.inr (.inr rfl)))
  obtain ⟨a0, ha0⟩ : ∃ a0, a0 = a00 := ⟨_, rfl⟩
  obtain ⟨g0, hg0⟩ : ∃ g0, g0 = g00 := ⟨_, rfl⟩
  rw [← ha0, ← hg0] at HR00 HR0 HRes
  obtain ⟨b, hb⟩ : ∃ b, b = W.heap.size := ⟨_, rfl⟩
  clear hRes g0' hR00 hV0 ha0 hg0 hne
  go_enter Tryz.func82, Tryz.ntmps82
  go_wp2_with (go_at_call 77; refine Hid.out ?_)
  unfold Hid
  rw [HV.out, ← hb]
  rw [← hb] at HBx0 HNe
  have HB := hidM hb
  clear HV hb
  have hq := HN.out _ _ _ HR0.out
  cases hr : numR B 4 (a0, g0) with
  | error er =>
    rw [hr] at hq
    refine Calls.mono hq ?_
    rintro e' U ⟨hk, rfl⟩
    have HGe := hidM (HG0.out.tr hk)
    have Hr := hidM hr
    clear hk hq hr
    go_wp2_with fail
    exact ⟨rfl, RdQ.err HGe.out (by rw [HRes.out]; exact Rd.bind_err Hr.out)⟩
  | ok q =>
    obtain ⟨x1, a1, g1⟩ := q
    rw [hr] at hq
    refine Calls.mono hq ?_
    rintro e' U1 ⟨hk, v, rfl, rfl, hR⟩
    have HBx1 := hidM ((hk.block b (lt_of_heap HBx0.out) (by have := HNe.out; omega)).trans HBx0.out)
    have HG1 := hidM (HG0.out.tr hk)
    have HR1 := hidM hR
    have Hr1 := hidM hr
    clear hk hq hr hR HBx0
    go_wp2_with (go_at_call 77; refine Hid.out ?_)
    unfold Hid
    have hq := HN.out _ _ _ HR1.out
    cases hr : numR B 4 (a1, g1) with
    | error er =>
      rw [hr] at hq
      refine Calls.mono hq ?_
      rintro e' U ⟨hk, rfl⟩
      have HGe := hidM (HG1.out.tr hk)
      have Hr := hidM hr
      clear hk hq hr
      go_wp2_with fail
      exact ⟨rfl, RdQ.err HGe.out (by rw [HRes.out]; exact (Rd.bind_ok Hr1.out).trans (Rd.bind_err Hr.out))⟩
    | ok q =>
      obtain ⟨x2, a2, g2⟩ := q
      rw [hr] at hq
      refine Calls.mono hq ?_
      rintro e' U2 ⟨hk, v, rfl, rfl, hR⟩
      have HBx2 := hidM ((hk.block b (lt_of_heap HBx1.out) (by have := HNe.out; omega)).trans HBx1.out)
      have HG2 := hidM (HG1.out.tr hk)
      have HR2 := hidM hR
      have Hr2 := hidM hr
      clear hk hq hr hR HBx1
      go_wp2_with (go_at_call 77; refine Hid.out ?_)
      unfold Hid
      have hq := HN.out _ _ _ HR2.out
      cases hr : numR B 4 (a2, g2) with
      | error er =>
        rw [hr] at hq
        refine Calls.mono hq ?_
        rintro e' U ⟨hk, rfl⟩
        have HGe := hidM (HG2.out.tr hk)
        have Hr := hidM hr
        clear hk hq hr
        go_wp2_with fail
        exact ⟨rfl, RdQ.err HGe.out (by rw [HRes.out]; exact (Rd.bind_ok Hr1.out).trans ((Rd.bind_ok Hr2.out).trans (Rd.bind_err Hr.out)))⟩
      | ok q =>
        obtain ⟨x3, a3, g3⟩ := q
        rw [hr] at hq
        refine Calls.mono hq ?_
        rintro e' U3 ⟨hk, v, rfl, rfl, hR⟩
        have HBx3 := hidM ((hk.block b (lt_of_heap HBx2.out) (by have := HNe.out; omega)).trans HBx2.out)
        have HG3 := hidM (HG2.out.tr hk)
        have HR3 := hidM hR
        have Hr3 := hidM hr
        clear hk hq hr hR HBx2
        obtain ⟨z0, z1, z2⟩ := fz3 HBx3.out
        obtain ⟨t0, t1, t2⟩ := ce3 HBx3.out
        go_wp2_with fail
        have hb3 := put3_box (.int .i64 (x1 : Int)) (.int .i64 (x2 : Int)) (.int .i64 (x3 : Int)) HBx3.out
        have k3 := put3_keeps U3 b (.int .i64 (x1 : Int)) (.int .i64 (x2 : Int)) (.int .i64 (x3 : Int))
        have kW := HG3.out.trans k3 (fun j hj h => by have := HB.out; omega)
        have hE : R = .ok (((x1 : Int), (x2 : Int), (x3 : Int)), (a3, g3)) := by rw [HRes.out]; exact (Rd.bind_ok Hr1.out).trans ((Rd.bind_ok Hr2.out).trans ((Rd.bind_ok Hr3.out).trans (rfl)))
        (try simp only [Exit.inBlock, Exit.then])
        exact bodyPost_ret (results_cell64 rfl rfl hb3 (by kernel_rfl)) rfl (RdQ.ok kW hE rfl (RAt.over HR00.out HR3.out kW (k3.block p (lt_of_heap HR3.out.box) (by have := HNe.out; omega))))
theorem note_any (p : Nat) (bo : Option Addr) (B : List UInt8) (bc : Nat) : RdC p bo B bc 92 #[.pointer (some ⟨p, 0, none⟩)] (noteR B) (fun _ _ x v => v = .agg #[.string x.1, .string x.2]) := by
  intro W a00 g00 hR00
  obtain ⟨R, hRes⟩ : ∃ R, R = noteR B (a00, g00) := ⟨_, rfl⟩
  rw [← hRes]
  have HRes := hidM hRes
  obtain ⟨V0, hV0⟩ := ex (W.alloc (.cells #[.string ⟨#[]⟩, .string ⟨#[]⟩] 55))
  have g0' : Gr W V0 := by rw [← hV0]; exact gr_alloc W _
  have HBx0 : Hid (V0.heap[W.heap.size]? = some (.cells #[.string ⟨#[]⟩, .string ⟨#[]⟩] 55 (0, 0))) := by show _ = _; rw [← hV0]; exact heap_alloc_new W _
  have HR00 := hidM hR00
  have HR0 := hidM (hR00.gr g0')
  have HG0 : Hid (Keeps W V0 (fun z => z = p)) := g0'.mono fun _ _ h => h.elim
  have HV := hidM hV0
  have hne : p < W.heap.size := hR00.lt
  have HNe := hidM hne
  have HN := hidM (text_any p bo B bc 2 (.inr (.inl rfl)))
  obtain ⟨a0, ha0⟩ : ∃ a0, a0 = a00 := ⟨_, rfl⟩
  obtain ⟨g0, hg0⟩ : ∃ g0, g0 = g00 := ⟨_, rfl⟩
  rw [← ha0, ← hg0] at HR00 HR0 HRes
  obtain ⟨b, hb⟩ : ∃ b, b = W.heap.size := ⟨_, rfl⟩
  clear hRes g0' hR00 hV0 ha0 hg0 hne
  go_enter Tryz.func92, Tryz.ntmps92
  go_wp2_with (go_at_call 104; refine Hid.out ?_)
  unfold Hid
  rw [HV.out, ← hb]
  rw [← hb] at HBx0 HNe
  have HB := hidM hb
  clear HV hb
  have hq := HN.out _ _ _ HR0.out
  cases hr : textR B 2 (a0, g0) with
  | error er =>
    rw [hr] at hq
    refine Calls.mono hq ?_
    rintro e' U ⟨hk, rfl⟩
    have HGe := hidM (HG0.out.tr hk)
    have Hr := hidM hr
    clear hk hq hr
    go_wp2_with fail
    exact ⟨rfl, RdQ.err HGe.out (by rw [HRes.out]; exact Rd.bind_err Hr.out)⟩
  | ok q =>
    obtain ⟨x1, a1, g1⟩ := q
    rw [hr] at hq
    refine Calls.mono hq ?_
    rintro e' U1 ⟨hk, v, rfl, rfl, hR⟩
    have HBx1 := hidM ((hk.block b (lt_of_heap HBx0.out) (by have := HNe.out; omega)).trans HBx0.out)
    have HG1 := hidM (HG0.out.tr hk)
    have HR1 := hidM hR
    have Hr1 := hidM hr
    clear hk hq hr hR HBx0
    go_wp2_with (go_at_call 104; refine Hid.out ?_)
    unfold Hid
    have hq := HN.out _ _ _ HR1.out
    cases hr : textR B 2 (a1, g1) with
    | error er =>
      rw [hr] at hq
      refine Calls.mono hq ?_
      rintro e' U ⟨hk, rfl⟩
      have HGe := hidM (HG1.out.tr hk)
      have Hr := hidM hr
      clear hk hq hr
      go_wp2_with fail
      exact ⟨rfl, RdQ.err HGe.out (by rw [HRes.out]; exact (Rd.bind_ok Hr1.out).trans (Rd.bind_err Hr.out))⟩
    | ok q =>
      obtain ⟨x2, a2, g2⟩ := q
      rw [hr] at hq
      refine Calls.mono hq ?_
      rintro e' U2 ⟨hk, v, rfl, rfl, hR⟩
      have HBx2 := hidM ((hk.block b (lt_of_heap HBx1.out) (by have := HNe.out; omega)).trans HBx1.out)
      have HG2 := hidM (HG1.out.tr hk)
      have HR2 := hidM hR
      have Hr2 := hidM hr
      clear hk hq hr hR HBx1
      obtain ⟨z0, z1⟩ := fz2 HBx2.out
      obtain ⟨t0, t1⟩ := ce2 HBx2.out
      go_wp2_with fail
      have hb3 := put2_box (.string x1) (.string x2) HBx2.out
      have k3 := put2_keeps U2 b (.string x1) (.string x2)
      have kW := HG2.out.trans k3 (fun j hj h => by have := HB.out; omega)
      have hE : R = .ok ((x1, x2), (a2, g2)) := by rw [HRes.out]; exact (Rd.bind_ok Hr1.out).trans ((Rd.bind_ok Hr2.out).trans (rfl))
      (try simp only [Exit.inBlock, Exit.then])
      exact bodyPost_ret (results_cell60 rfl rfl hb3 (by kernel_rfl)) rfl (RdQ.ok kW hE rfl (RAt.over HR00.out HR2.out kW (k3.block p (lt_of_heap HR2.out.box) (by have := HNe.out; omega))))
end Go.Proofs.YtdihbfjjddmbiaaGreatDoor.Kit
namespace Go.Proofs.YtdihbfjjddmbiaaGreatDoor.Kit
open Go.RowKit Go.Deep
section
variable {P : Program} (w : World)
theorem run_append_anyN (t tx ty e : TypeId) (i : TypeInfo) (z : Value) (bytes : Nat) (ht : P.underlying t = some (.slice e)) (hi : P.info? e = some i) (hz : i.zero = some z) (size : Nat) (hsize : i.size = size) (hby : i.bytes = bytes) (hzs : z.cells.size = size)
    (v : Value) (n : Nat) (xs : List Value) (hown : w.ownsRow 0 e size v n xs) (x : Value) (m : Nat) (news : List Value) (hs : Src P size tx x m news w)
    (h63 : n + m ≤ 9223372036854775807) (hbytes : (n + m) * bytes ≤ 140737488355328) :
    ∃ v' w', (Builtin.append_ #[t, tx] ty #[v, x]).run P w = .ok v' w' ∧ w'.ownsRow 0 e size v' (n + m) (xs ++ news) ∧ w.grownBy w' v.ownBlock ∧
      (v'.ownBlock = v.ownBlock ∨ ∀ g, v'.ownBlock = some g → w.heap.size ≤ g) := by
  subst hby
  have hlen : (xs ++ news).length = (n + m) * size := by rw [List.length_append, hown.1, hs.newsLen, Nat.add_mul]
  have grown : ∀ (old : Nat), old < n + m → ∀ (row : Option Nat),
      (w.drew.alloc (.cells ((xs ++ news).toArray ++ Builtin.zeroCells z.cells (grownCap w (n + m) old e - (n + m))) e)).ownsRow 0 e size
        (.slice (some ⟨w.heap.size, 0, none⟩) (n + m) (grownCap w (n + m) old e)) (n + m) (xs ++ news) ∧
      w.grownBy (w.drew.alloc (.cells ((xs ++ news).toArray ++ Builtin.zeroCells z.cells (grownCap w (n + m) old e - (n + m))) e)) row := by
    intro old ho row
    have hge := grownCap_ge w (n + m) old e
    have hcm : grownCap w (n + m) old e ≤ maxLen := grownCap_le_maxLen w (n + m) old e h63
    refine ⟨⟨hlen, .inr ⟨w.heap.size, _, _, rfl, Nat.zero_le _, heap_alloc_new w.drew _, hge, hcm, ?_, ?_⟩⟩, ⟨rfl, rfl, rfl, by simp, fun k hk _ => Below.heap_alloc w.drew _ k hk⟩⟩
    · simp only [Array.size_append, List.size_toArray, size_zeroCells, hzs, hlen, ← Nat.add_mul]
      congr 1
      omega
    simp only [Array.toList_append]
    rw [← hlen]
    exact List.take_left
  rcases hown.2 with ⟨rfl, rfl⟩ | ⟨g, cap, cur, rfl, hbg, hg, hnc, hcm, hcs, htake⟩
  · have hx : xs = [] := List.eq_nil_of_length_eq_zero (by simpa using hown.1)
    subst hx
    by_cases hm : m = 0
    · subst hm
      have hn : news = [] := List.eq_nil_of_length_eq_zero (by have := hs.newsLen; simpa using this)
      subst hn
      refine ⟨.slice none 0 0, w, ?_, World.ownsRow_nil w 0 e size, ⟨rfl, rfl, rfl, Nat.le_refl _, fun _ _ _ => rfl⟩, .inl rfl⟩
      have hc := hs.cells
      have hl := hs.len
      rcases hs.kind with ⟨e', hk⟩ | hk <;> simp [Builtin.append_, run_underlying ht, run_underlying hk, sizeOf, typeInfo, hi, hsize, hl, hc]
    have hr := run_append_grow_src (P := P) w t tx ty e i z ht hi hz none 0 0 [] (by simpa using run_firstCells_none w.drew i.size 0 0 0) x m news (by rw [hsize]; exact hs) (by omega) (by omega) (growslice_fits (by omega) hbytes)
    have hgr := grown 0 (by omega) (Value.ownBlock (.slice none 0 0))
    exact ⟨_, _, hr, hgr.1, hgr.2, .inr fun g hg => by simp [Value.ownBlock] at hg; omega⟩
  by_cases hroom : n + m ≤ cap
  · have hl := hs.newsLen
    have hfit : n * i.size + news.length ≤ cur.size := by rw [hl, hcs, hsize, ← Nat.add_mul]; exact Nat.mul_le_mul_right _ hroom
    have hr := run_append_room_row (P := P) w t tx ty e i ht hi g n cap cur hg x m news (by rw [hsize]; exact hs) hroom hfit
    rw [hsize] at hr hfit
    refine ⟨_, _, hr, ⟨hlen, .inr ⟨g, cap, _, rfl, hbg, setRow_heap w g cur _ e _ hg, hroom, hcm, ?_, ?_⟩⟩, ⟨rfl, rfl, rfl, by simp, fun k _ hk => setRow_other w g k _ (fun e => hk (by simp [Value.ownBlock, e]))⟩, .inl rfl⟩
    · simp only [List.size_toArray, List.length_append, List.length_take, List.length_drop, Array.length_toList]
      omega
    rw [htake, ← hlen]
    exact List.take_left
  have holds : ∀ j u, xs[j]? = some u → w.cell? ((⟨g, 0, none⟩ : Addr).add j) = some u := hown.cells (g := g) rfl
  have hr := run_append_grow_src (P := P) w t tx ty e i z ht hi hz (some ⟨g, 0, none⟩) n cap xs (run_firstCells_some w.drew i.size n ⟨g, 0, none⟩ n cap xs (by rw [hsize]; exact hown.1) (by simpa using holds)) x m news (by rw [hsize]; exact hs) (by omega) (by omega) (growslice_fits (by omega) hbytes)
  have hgr := grown cap (by omega) (Value.ownBlock (.slice (some ⟨g, 0, none⟩) n cap))
  exact ⟨_, _, hr, hgr.1, hgr.2, .inr fun g' hg' => by simp [Value.ownBlock] at hg'; omega⟩
theorem wpList_append_anyN {ops : Array Oper} {rest : List Oper} {o : Oper} {a : Act} {Q : Exit → Act → World → Prop} (hgd : o.guard = none) (s x : Operand) (t tx : TypeId)
    (ho : o.op = .call { callee := .builtin .append, args := #[s, x], argTypes := #[t, tx] })
    (e : TypeId) (z : Value) (size bytes : Nat) (ht : P.underlying t = some (.slice e)) (hinfo : (P.info? e).map (fun i => (i.zero, i.size, i.bytes)) = some (some z, size, bytes)) (hzs : z.cells.size = size)
    (v : Value) (n : Nat) (xs : List Value) (hv : a.eval s = v) (hown : w.ownsRow 0 e size v n xs) (y : Value) (m : Nat) (news : List Value) (hx : a.eval x = y) (hs : Src P size tx y m news w)
    (h63 : n + m ≤ 9223372036854775807) (hbytes : (n + m) * bytes ≤ 140737488355328)
    (h : ∀ v' w', w'.ownsRow 0 e size v' (n + m) (xs ++ news) → w.grownBy w' v.ownBlock → (v'.ownBlock = v.ownBlock ∨ ∀ g, v'.ownBlock = some g → w.heap.size ≤ g) → wpList P ops Q rest (a.put o.dst v') w') :
    wpList P ops Q (o :: rest) a w := by
  refine wpList_plain hgd fun K hK' => ?_
  obtain ⟨i, hi, hzz⟩ := Option.map_eq_some_iff.1 hinfo
  simp only [Prod.mk.injEq] at hzz
  obtain ⟨hz, hsz, hb⟩ := hzz
  obtain ⟨v', w', hr, h2, h3, h4⟩ := run_append_anyN (P := P) w t tx o.type e i z bytes ht hi hz size hsz hb hzs v n xs hown y m news hs h63 hbytes
  unfold Oper.wp
  simp [execOp, ho, resolve, invoke, builtin, hv, hx, hr, Result.andThen]
  exact hK' _ _ (h v' w' h2 h3 h4)
end
end Go.Proofs.YtdihbfjjddmbiaaGreatDoor.Kit
