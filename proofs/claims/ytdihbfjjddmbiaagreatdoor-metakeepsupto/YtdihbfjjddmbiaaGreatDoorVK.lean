import Derived.Test.YtdihbfjjddmbiaaGreatDoorVJ
set_option maxRecDepth 100000
set_option maxHeartbeats 4000000
namespace Go.Proofs.YtdihbfjjddmbiaaGreatDoor.Kit
open Go.RowKit Go.Shelf Go.Deep
set_option linter.unusedVariables false
attribute [local go_sem] run_store_func
def ntM (n : ByteArray × ByteArray) : List UInt8 := txtB n.1 2 ++ txtB n.2 2
def ndM (n : Int × Int) : List UInt8 := numB n.1.toNat 4 ++ numB n.2.toNat 4
def slM (s : Int × Int × Int) : List UInt8 := numB s.1.toNat 4 ++ numB s.2.1.toNat 4 ++ numB s.2.2.toNat 4
def schB (fb : FT → List UInt8) (fs : List FT) (ns : List (ByteArray × ByteArray)) : List UInt8 := numB fs.length 2 ++ fs.flatMap fb ++ numB ns.length 2 ++ ns.flatMap ntM
def bdyB (rows pr : Int) (nds : List (Int × Int)) (sls : List (Int × Int × Int)) : List UInt8 := numB rows.toNat 4 ++ numB pr.toNat 1 ++ numB nds.length 2 ++ nds.flatMap ndM ++ numB sls.length 2 ++ sls.flatMap slM
def hd4 (k : Int) : List UInt8 := [UInt8.ofNat k.toNat, 1, 0, 0]
theorem flat_take {α : Type} (f : α → List UInt8) (l : List α) (k : Nat) : ((l.take k).flatMap f).length ≤ (l.flatMap f).length := by
  have e : l.flatMap f = (l.take k).flatMap f ++ (l.drop k).flatMap f := by rw [← List.flatMap_append, List.take_append_drop]
  rw [e, List.length_append]; omega
theorem flat_next {α : Type} (f : α → List UInt8) (l : List α) (k : Nat) (h : k < l.length) : (l.take (k + 1)).flatMap f = (l.take k).flatMap f ++ f l[k] := by
  rw [List.take_add_one, List.getElem?_eq_getElem h, List.flatMap_append]; simp
structure PS (W V Wi : World) (R B : Nat) (c : Array Value) (vo : Option Addr) (vc n : Nat) (bs : List UInt8) : Prop where
  ap : Ap W V Wi (some ⟨R, 0, none⟩) 4 4 vo vc n bs
  box : Wi.heap[B]? = some (.cells c 29)
  ne : ¬ (Value.slice vo n vc).ownBlock = some B
theorem PS.step {W V Wi Wj : World} {R B : Nat} {c : Array Value} {vo vo' : Option Addr} {vc n vc' n' : Nat} {bs bs' : List UInt8} (h : PS W V Wi R B c vo vc n bs) (k : Ap W Wi Wj vo vc n vo' vc' n' bs') : PS W V Wj R B c vo' vc' n' bs' :=
  ⟨h.ap.trans k, (k.box h.box h.ne).1, (k.box h.box h.ne).2⟩
theorem putR_true {k di rows pr : Int} {dl : Bool} {fo no ao uo : Option Addr} {cf cn ac uc : Nat} {fs : List FT} {ns : List (ByteArray × ByteArray)} {nds : List (Int × Int)} {sls : List (Int × Int × Int)} {W : World} {Y : Prop} (fb : FT → List UInt8) (hok : HOk Y k fs.length ns.length di dl rows pr nds sls)
    (h12 : ∀ W', Gr W W' → Calls Tryz.prog 4 #[.agg #[.int .i64 k, .slice fo fs.length cf, .slice no ns.length cn, .int .i64 di, .bool dl, .int .i64 rows, .int .i64 pr, .slice ao nds.length ac, .slice uo sls.length uc]] W' fun e w' => e = .returned (.bool true) ∧ Gr W' w')
    (hf : k = 1 → fs ≠ [] → ∃ b o, fo = some ⟨b, o, none⟩ ∧ ∀ i (h : i < fs.length), ∃ ao' ca', CellsAt W b (o + i * 7) fs[i] ao' ca' ∧ ∀ W' vo vc n bs, Byts W W' vo vc n bs → n + (fb fs[i]).length ≤ 500000 → Calls Tryz.prog 15 #[.slice vo n vc, .agg #[.string fs[i].name, .bool fs[i].nul, .int .i64 fs[i].kind, .int .i64 fs[i].width, .int .i64 fs[i].id, .int .i64 fs[i].index, .slice ao' fs[i].kids.length ca']] W' fun e w' => ∃ vo' vc' n', e = .returned (.slice vo' n' vc') ∧ Ap W W' w' vo vc n vo' vc' n' (bs ++ fb fs[i]))
    (hfl : k = 1 → fs.length ≤ 32 ∧ ns.length ≤ 16 ∧ (fs.flatMap fb).length ≤ 100000 ∧ (ns.flatMap ntM).length ≤ 100000 ∧ ∀ n ∈ ns, n.1.size ≤ 256 ∧ n.2.size ≤ 256) (hn : NotesAt W no ns) (hv : NodesAt W ao nds) (hu : SlotsAt W uo sls) (hnl : (nds.flatMap ndM).length ≤ 100000) (hsl : (sls.flatMap slM).length ≤ 100000) :
    Calls Tryz.prog 5 #[.agg #[.int .i64 k, .slice fo fs.length cf, .slice no ns.length cn, .int .i64 di, .bool dl, .int .i64 rows, .int .i64 pr, .slice ao nds.length ac, .slice uo sls.length uc]] W fun e w' => ∃ vo vc n, e = .returned (.tuple #[.slice vo n vc, .int .i64 0]) ∧ Byts W w' vo vc n (if k = 1 then hd4 k ++ schB fb fs ns else if k = 2 then hd4 k ++ (numB di.toNat 2 ++ flgB dl) ++ bdyB rows pr nds sls else hd4 k ++ bdyB rows pr nds sls) := by
  have hk0 : 0 ≤ k ∧ k ≤ 3 := by rcases hok with h | h <;> omega
  have H12 := hidM h12
  have HF := hidM hf
  have HFl := hidM hfl
  have HNo := hidM hn.2
  have HNd := hidM hv.2
  have HSl := hidM hu.2
  have HNL := hidM hnl
  have HSL := hidM hsl
  have HOk' := hidM hok
  have hlf : ns.length ≤ 1000000000000 := hn.1
  have hlv : nds.length ≤ 1000000000000 := hv.1
  have hlu : sls.length ≤ 1000000000000 := hu.1
  have hbx := World.alloc_heap_new W (.cells #[.int .i64 k, .slice fo fs.length cf, .slice no ns.length cn, .int .i64 di, .bool dl, .int .i64 rows, .int .i64 pr, .slice ao nds.length ac, .slice uo sls.length uc] 29)
  have HB := hidM hbx
  have hw8 : IntKind.u8.wrap k = k := by rw [IntKind.wrap_u8]; omega
  have HK8 : Hid ([Value.int .u8 k, .int .u8 1, .int .u8 0, .int .u8 0] = bv (hd4 k)) := by
    show _ = _
    have e : ((UInt8.ofNat k.toNat).toNat : Int) = k := by simp; omega
    unfold hd4 bv
    simp only [List.map_cons, List.map_nil, e]
    rfl
  clear h12 hf hfl hn hv hu hnl hsl hok hbx
  go_enter Tryz.func5, Tryz.ntmps5
  go_wp2_with (go_at_call 4; refine Hid.out ?_)
  unfold Hid
  refine Calls.mono (H12.out _ (gr_alloc W _)) ?_
  rintro e V1 ⟨rfl, hg1⟩
  have hB1 := (hg1.block _ (lt_of_heap HB.out) id).trans HB.out
  obtain ⟨R, hR⟩ : ∃ R, R = V1.heap.size := ⟨_, rfl⟩
  obtain ⟨B, hB⟩ : ∃ B, B = W.heap.size := ⟨_, rfl⟩
  have hgW : Gr W V1 := (gr_alloc W _).tr hg1
  obtain ⟨V, hV⟩ : ∃ V, V = V1.alloc (.cells #[.int .u8 k, .int .u8 1, .int .u8 0, .int .u8 0] 5) := ⟨_, rfl⟩
  have HS0 : Hid (PS W V V R B #[.int .i64 k, .slice fo fs.length cf, .slice no ns.length cn, .int .i64 di, .bool dl, .int .i64 rows, .int .i64 pr, .slice ao nds.length ac, .slice uo sls.length uc] (some ⟨R, 0, none⟩) 4 4 (hd4 k)) := by
    have hr : V.heap[R]? = some (.cells #[.int .u8 k, .int .u8 1, .int .u8 0, .int .u8 0] 5) := by rw [hV, hR]; exact World.alloc_heap_new V1 _
    have hgV : Gr V1 V := by rw [hV]; exact gr_alloc V1 _
    refine ⟨Ap.refl ⟨⟨rfl, .inr ⟨R, 4, #[.int .u8 k, .int .u8 1, .int .u8 0, .int .u8 0], rfl, Nat.zero_le _, hr, by omega, by decide, rfl, ?_⟩⟩, hgW.tr hgV, fun x hx => ?_⟩, ?_, ?_⟩
    · exact HK8.out
    · have e : R = x := by simpa [Value.ownBlock] using hx
      rw [← e, hR]; exact hgW.size
    · rw [hB]; exact (hgV.block _ (lt_of_heap hB1) id).trans hB1
    intro e
    have e' : R = B := by simpa [Value.ownBlock] using e
    have := lt_of_heap hB1
    omega
  obtain ⟨p0, p1, p2, p3, p4, p5, p6, p7, p8⟩ := ce9 hB1
  have pa0 := fun o => (gr_alloc V1 o).cell' p0 id
  have pa1 := fun o => (gr_alloc V1 o).cell' p1 id
  have pa3 := fun o => (gr_alloc V1 o).cell' p3 id
  have pa5 := fun o => (gr_alloc V1 o).cell' p5 id
  clear hg1 hgW H12 HB HK8 hB1
  have hn4 : 4 ≤ 4 := Nat.le_refl 4
  by_cases c1 : k = 1
  · have k1 : (k == 1) = true := by simp [c1]
    have HC1 := hidM c1
    obtain ⟨f1, f2, f3, f4, f5⟩ := HFl.out c1
    have HF3 := hidM f3
    have HF4 := hidM f4
    have HF5 := hidM f5
    clear c1 f3 f4 f5
    have HC1 := hidM (numberR_at HS0.out.ap.b (by omega) (fs.length : Int) 2 2 (by omega) (by omega) rfl (by omega))
    go_wp2_with (go_at_call 14; refine Hid.out ?_)
    unfold Hid
    try rw [← hR]
    try rw [← hB]
    try rw [← hV]
    clear hR hB hV pa0 pa1 pa3 pa5
    refine Calls.mono HC1.out ?_
    rintro e W1 ⟨vo1, vc1, rfl, hp1⟩
    simp only [Nat.reduceAdd] at hp1
    have HS1 := hidM (HS0.out.step hp1)
    clear hp1 HC1 p0 p1 p2 p3 p4 p5 p6 p7 p8
    rw [Int.toNat_natCast] at HS1
    obtain ⟨p0, p1, p2, p3, p4, p5, p6, p7, p8⟩ := ce9 HS1.out.box
    go_wp2_with fail
    go_loopw [5, 6] (fun v i wr => ∃ (j n' : Nat) (vo' : Option Addr) (vc' : Nat), j ≤ fs.length ∧ n' ≤ 100006 ∧ i = .int .i64 (j : Int) ∧ v = .slice vo' n' vc' ∧ Hid (PS W V wr R B #[.int .i64 k, .slice fo fs.length cf, .slice no ns.length cn, .int .i64 di, .bool dl, .int .i64 rows, .int .i64 pr, .slice ao nds.length ac, .slice uo sls.length uc] vo' vc' n' (hd4 k ++ numB fs.length 2 ++ (fs.take j).flatMap fb))) (fun _ i _ => fs.length - (intOf i).toNat)
    case atStart => exact ⟨0, 6, vo1, vc1, by omega, by omega, rfl, rfl, by rw [List.take_zero, List.flatMap_nil, List.append_nil]; exact HS1.out⟩
    case round =>
      obtain ⟨j, n', vo', vc', hj, hnb, rfl, rfl, HR⟩ := hrel
      clear p0 p1 p2 p3 p4 p5 p6 p7 p8
      obtain ⟨p0, p1, p2, p3, p4, p5, p6, p7, p8⟩ := ce9 HR.out.box
      by_cases hlt : j < fs.length
      · have hltI : (j : Int) < (fs.length : Int) := by omega
        have hj0 : (0 : Int) ≤ (j : Int) := by omega
        have HTK : Hid (hd4 k ++ numB fs.length 2 ++ (fs.take (j + 1)).flatMap fb = hd4 k ++ numB fs.length 2 ++ (fs.take j).flatMap fb ++ fb fs[j]) := by show _ = _; rw [flat_next fb fs j hlt, ← List.append_assoc]
        have HLim : Hid (n' + (fb fs[j]).length ≤ 100006) := by
          have h1 := HR.out.ap.b.len
          have h2 := HS1.out.ap.b.len
          have h3 := flat_take fb fs (j + 1)
          rw [flat_next fb fs j hlt, List.length_append] at h3
          rw [List.length_append, h2] at h1
          have := HF3.out
          show _ ≤ _; omega
        obtain ⟨b, o, hfo, hcs⟩ := HF.out HC1.out (fun e => by rw [e] at hlt; simp at hlt)
        obtain ⟨ao', ca', hc, hcall⟩ := hcs j hlt
        obtain ⟨g0, g1, g2, g3, g4, g5, g6⟩ := hc.kept (HR.out.ap.b.gr.block b (block_lt_of_cell hc.c0) id)
        rw [hfo] at p1
        have HCa := hidM (hcall wr vo' vc' n' _ HR.out.ap.b (by have := HLim.out; omega))
        clear hcs hcall hc hfo
        have HC3 := hidM (HCa.out)
        go_wp2_with (go_at_call 15; refine Hid.out ?_)
        unfold Hid
        refine Calls.mono HC3.out ?_
        rintro e W3 ⟨vo3, vc3, n3, rfl, hp3⟩
        have HS3 := hidM (HR.out.step hp3)
        clear hp3 HC3 p0 p1 p2 p3 p4 p5 p6 p7 p8
        obtain ⟨p0, p1, p2, p3, p4, p5, p6, p7, p8⟩ := ce9 HS3.out.box
        have HN : Hid (PS W V W3 R B #[.int .i64 k, .slice fo fs.length cf, .slice no ns.length cn, .int .i64 di, .bool dl, .int .i64 rows, .int .i64 pr, .slice ao nds.length ac, .slice uo sls.length uc] vo3 vc3 n3 (hd4 k ++ numB fs.length 2 ++ (fs.take (j + 1)).flatMap fb)) := by
          have := HS3.out
          rw [HTK.out]
          exact this
        have hnf : n3 ≤ 100006 := by
          have h1 := HN.out.ap.b.len
          have h2 := HR.out.ap.b.len
          have h3 := HLim.out
          rw [HTK.out, List.length_append, h2] at h1
          omega
        go_wp2_with fail
        go_roundw
        case rel => exact ⟨j + 1, n3, vo3, vc3, by omega, hnf, by simp, rfl, HN.out⟩
        case measure => simp [intOf]; omega
      have hltI : ¬ (j : Int) < (fs.length : Int) := by omega
      have HRf : Hid (PS W V wr R B #[.int .i64 k, .slice fo fs.length cf, .slice no ns.length cn, .int .i64 di, .bool dl, .int .i64 rows, .int .i64 pr, .slice ao nds.length ac, .slice uo sls.length uc] vo' vc' n' (hd4 k ++ numB fs.length 2 ++ fs.flatMap fb)) := by have := HR.out; rwa [List.take_of_length_le (by omega)] at this
      have HC4 := hidM (numberR_at HRf.out.ap.b (by omega) (ns.length : Int) 2 2 (by omega) (by omega) rfl (by omega))
      go_wp2_with (go_at_call 14; refine Hid.out ?_)
      unfold Hid
      refine Calls.mono HC4.out ?_
      rintro e W4 ⟨vo4, vc4, rfl, hp4⟩
      obtain ⟨n4, hn4⟩ : ∃ n4, n4 = n' + 2 := ⟨_, rfl⟩
      rw [← hn4] at hp4 ⊢
      have hb4 : n4 ≤ 100008 := by omega
      clear hn4
      have HS4 := hidM (HRf.out.step hp4)
      clear hp4 HC4 p0 p1 p2 p3 p4 p5 p6 p7 p8
      rw [Int.toNat_natCast] at HS4
      obtain ⟨p0, p1, p2, p3, p4, p5, p6, p7, p8⟩ := ce9 HS4.out.box
      go_wp2_with fail
      go_loopw [5, 7] (fun v i wr => ∃ (j n' : Nat) (vo' : Option Addr) (vc' : Nat), j ≤ ns.length ∧ n' ≤ 200008 ∧ i = .int .i64 (j : Int) ∧ v = .slice vo' n' vc' ∧ Hid (PS W V wr R B #[.int .i64 k, .slice fo fs.length cf, .slice no ns.length cn, .int .i64 di, .bool dl, .int .i64 rows, .int .i64 pr, .slice ao nds.length ac, .slice uo sls.length uc] vo' vc' n' (hd4 k ++ numB fs.length 2 ++ fs.flatMap fb ++ numB ns.length 2 ++ (ns.take j).flatMap ntM))) (fun _ i _ => ns.length - (intOf i).toNat)
      case atStart => exact ⟨0, n4, vo4, vc4, by omega, by omega, rfl, rfl, by rw [List.take_zero, List.flatMap_nil, List.append_nil]; exact HS4.out⟩
      case round =>
        obtain ⟨j, n', vo', vc', hj, hnb, rfl, rfl, HR⟩ := hrel
        clear p0 p1 p2 p3 p4 p5 p6 p7 p8
        obtain ⟨p0, p1, p2, p3, p4, p5, p6, p7, p8⟩ := ce9 HR.out.box
        by_cases hlt : j < ns.length
        · have hltI : (j : Int) < (ns.length : Int) := by omega
          have hj0 : (0 : Int) ≤ (j : Int) := by omega
          have HTK : Hid (hd4 k ++ numB fs.length 2 ++ fs.flatMap fb ++ numB ns.length 2 ++ (ns.take (j + 1)).flatMap ntM = hd4 k ++ numB fs.length 2 ++ fs.flatMap fb ++ numB ns.length 2 ++ (ns.take j).flatMap ntM ++ ntM ns[j]) := by show _ = _; rw [flat_next ntM ns j hlt, ← List.append_assoc]
          have HLim : Hid (n' + (ntM ns[j]).length ≤ 200008) := by
            have h1 := HR.out.ap.b.len
            have h2 := HS4.out.ap.b.len
            have h3 := flat_take ntM ns (j + 1)
            rw [flat_next ntM ns j hlt, List.length_append] at h3
            rw [List.length_append, h2] at h1
            have := HF4.out
            show _ ≤ _; omega
          obtain ⟨b, o, hno, hcs⟩ := HNo.out (fun e => by rw [e] at hlt; simp at hlt)
          obtain ⟨c0, c1⟩ := hcs j hlt
          have g0 := HR.out.ap.b.gr.cell' c0 id
          have g1 := HR.out.ap.b.gr.cell' c1 id
          have hsz := HF5.out ns[j] (List.getElem_mem hlt)
          have HCell := hidM (And.intro c0 c1)
          have hfx : ntM ns[j] = txtB ns[j].1 2 ++ txtB ns[j].2 2 := rfl
          obtain ⟨ky, hky⟩ : ∃ ky, ky = ns[j].1 := ⟨_, rfl⟩
          obtain ⟨tx, htx⟩ : ∃ tx, tx = ns[j].2 := ⟨_, rfl⟩
          rw [← hky] at g0 hsz
          rw [← htx] at g1 hsz
          rw [← hky, ← htx] at hfx HCell
          have HFx := hidM hfx
          rw [hno] at p2
          have HNoe := hidM hno
          clear hcs c0 c1 hno hfx hky htx
          have HC6 := hidM (textR_at HR.out.ap.b (by omega) ky 2 2 (by omega) rfl (by omega))
          go_wp2_with (go_at_call 16; refine Hid.out ?_)
          unfold Hid
          refine Calls.mono HC6.out ?_
          rintro e W6 ⟨vo6, vc6, rfl, hp6⟩
          obtain ⟨n6, hn6⟩ : ∃ n6, n6 = n' + 2 + ky.size := ⟨_, rfl⟩
          rw [← hn6] at hp6 ⊢
          have hb6 : n6 ≤ 200308 := by omega
          clear hn6
          have HS6 := hidM (HR.out.step hp6)
          clear hp6 HC6 p0 p1 p2 p3 p4 p5 p6 p7 p8
          obtain ⟨p0, p1, p2, p3, p4, p5, p6, p7, p8⟩ := ce9 HS6.out.box
          clear g0 g1
          have g1 := HS6.out.ap.b.gr.cell' HCell.out.2 id
          rw [HNoe.out] at p2
          have HC7 := hidM (textR_at HS6.out.ap.b (by omega) tx 2 2 (by omega) rfl (by omega))
          go_wp2_with (go_at_call 16; refine Hid.out ?_)
          unfold Hid
          refine Calls.mono HC7.out ?_
          rintro e W7 ⟨vo7, vc7, rfl, hp7⟩
          obtain ⟨n7, hn7⟩ : ∃ n7, n7 = n6 + 2 + tx.size := ⟨_, rfl⟩
          rw [← hn7] at hp7 ⊢
          have hb7 : n7 ≤ 200608 := by omega
          clear hn7
          have HS7 := hidM (HS6.out.step hp7)
          clear hp7 HC7 p0 p1 p2 p3 p4 p5 p6 p7 p8
          obtain ⟨p0, p1, p2, p3, p4, p5, p6, p7, p8⟩ := ce9 HS7.out.box
          have HN : Hid (PS W V W7 R B #[.int .i64 k, .slice fo fs.length cf, .slice no ns.length cn, .int .i64 di, .bool dl, .int .i64 rows, .int .i64 pr, .slice ao nds.length ac, .slice uo sls.length uc] vo7 vc7 n7 (hd4 k ++ numB fs.length 2 ++ fs.flatMap fb ++ numB ns.length 2 ++ (ns.take (j + 1)).flatMap ntM)) := by
            have := HS7.out
            rw [HTK.out]
            rw [HFx.out, ← List.append_assoc]; exact this
          have hnf : n7 ≤ 200008 := by
            have h1 := HN.out.ap.b.len
            have h2 := HR.out.ap.b.len
            have h3 := HLim.out
            rw [HTK.out, List.length_append, h2] at h1
            omega
          go_wp2_with fail
          go_roundw
          case rel => exact ⟨j + 1, n7, vo7, vc7, by omega, hnf, by simp, rfl, HN.out⟩
          case measure => simp [intOf]; omega
        have hltI : ¬ (j : Int) < (ns.length : Int) := by omega
        have HRf : Hid (PS W V wr R B #[.int .i64 k, .slice fo fs.length cf, .slice no ns.length cn, .int .i64 di, .bool dl, .int .i64 rows, .int .i64 pr, .slice ao nds.length ac, .slice uo sls.length uc] vo' vc' n' (hd4 k ++ numB fs.length 2 ++ fs.flatMap fb ++ numB ns.length 2 ++ ns.flatMap ntM)) := by have := HR.out; rwa [List.take_of_length_le (by omega)] at this
        go_wp2_with fail
        refine bodyPost_ret (v := .tuple #[.slice vo' n' vc', .int .i64 0]) ?_ rfl ⟨vo', vc', n', rfl, ?_⟩
        · simp [results, Tryz.f5, go_sem]
        have := HRf.out.ap.b
        first | (rw [if_pos HC1.out]; unfold schB; simpa [List.append_assoc] using this) | (rw [HC1.out] at this; unfold schB; simpa [List.append_assoc] using this)
  have k1 : (k == 1) = false := beqF c1
  have HC1 := hidM c1
  have HB2 : Hid ((k = 2 ∨ k = 3) ∧ fs.length = 0 ∧ ns.length = 0 ∧ (0 ≤ rows ∧ rows ≤ 4096) ∧ (0 ≤ pr ∧ pr ≤ 2) ∧ nds.length ≤ 512 ∧ sls.length ≤ 1536 ∧ (k = 2 → 0 ≤ di ∧ di ≤ 31) ∧ (k = 3 → di = 0 ∧ dl = false) ∧ (∀ n ∈ nds, nodeOk n) ∧ ∀ s ∈ sls, slotOk s) := HOk'.out.elim (fun x => absurd x.1 c1) (fun x => x)
  obtain ⟨-, -, -, hrw, hpr, hl1, hl2, hid2, -, hno', hso'⟩ := HB2.out
  have HNO := hidM hno'
  have HSO := hidM hso'
  have HID := hidM hid2
  clear hno' hso' hid2 c1
  by_cases c2 : k = 2
  · have k2 : (k == 2) = true := by simp [c2]
    have hid := HID.out c2
    have HC2 := hidM c2
    clear c2
    have HC8 := hidM (numberR_at HS0.out.ap.b (by omega) di 2 2 (by omega) (by omega) rfl (by omega))
    go_wp2_with (go_at_call 14; refine Hid.out ?_)
    unfold Hid
    try rw [← hR]
    try rw [← hB]
    try rw [← hV]
    clear hR hB hV pa0 pa1 pa3 pa5
    refine Calls.mono HC8.out ?_
    rintro e W8 ⟨vo8, vc8, rfl, hp8⟩
    simp only [Nat.reduceAdd] at hp8
    have HS8 := hidM (HS0.out.step hp8)
    clear hp8 HC8 p0 p1 p2 p3 p4 p5 p6 p7 p8
    obtain ⟨p0, p1, p2, p3, p4, p5, p6, p7, p8⟩ := ce9 HS8.out.box
    have HC9 := hidM (flagR_any HS8.out.ap.b (by omega) dl)
    go_wp2_with (go_at_call 17; refine Hid.out ?_)
    unfold Hid
    refine Calls.mono HC9.out ?_
    rintro e W9 ⟨vo9, vc9, rfl, hp9⟩
    obtain ⟨n9, hn9⟩ : ∃ n9, n9 = 6 + 1 := ⟨_, rfl⟩
    rw [← hn9] at hp9 ⊢
    have hb9 : n9 ≤ 7 := by omega
    clear hn9
    have HS9 := hidM (HS8.out.step hp9)
    clear hp9 HC9 p0 p1 p2 p3 p4 p5 p6 p7 p8
    obtain ⟨p0, p1, p2, p3, p4, p5, p6, p7, p8⟩ := ce9 HS9.out.box
    have HC10 := hidM (numberR_at HS9.out.ap.b (by omega) rows 4 4 (by omega) (by omega) rfl (by omega))
    go_wp2_with (go_at_call 14; refine Hid.out ?_)
    unfold Hid
    refine Calls.mono HC10.out ?_
    rintro e W10 ⟨vo10, vc10, rfl, hp10⟩
    obtain ⟨n10, hn10⟩ : ∃ n10, n10 = n9 + 4 := ⟨_, rfl⟩
    rw [← hn10] at hp10 ⊢
    have hb10 : n10 ≤ 11 := by omega
    clear hn10
    have HS10 := hidM (HS9.out.step hp10)
    clear hp10 HC10 p0 p1 p2 p3 p4 p5 p6 p7 p8
    obtain ⟨p0, p1, p2, p3, p4, p5, p6, p7, p8⟩ := ce9 HS10.out.box
    have HC11 := hidM (numberR_at HS10.out.ap.b (by omega) pr 1 1 (by omega) (by omega) rfl (by omega))
    go_wp2_with (go_at_call 14; refine Hid.out ?_)
    unfold Hid
    refine Calls.mono HC11.out ?_
    rintro e W11 ⟨vo11, vc11, rfl, hp11⟩
    obtain ⟨n11, hn11⟩ : ∃ n11, n11 = n10 + 1 := ⟨_, rfl⟩
    rw [← hn11] at hp11 ⊢
    have hb11 : n11 ≤ 12 := by omega
    clear hn11
    have HS11 := hidM (HS10.out.step hp11)
    clear hp11 HC11 p0 p1 p2 p3 p4 p5 p6 p7 p8
    obtain ⟨p0, p1, p2, p3, p4, p5, p6, p7, p8⟩ := ce9 HS11.out.box
    have HC12 := hidM (numberR_at HS11.out.ap.b (by omega) (nds.length : Int) 2 2 (by omega) (by omega) rfl (by omega))
    go_wp2_with (go_at_call 14; refine Hid.out ?_)
    unfold Hid
    refine Calls.mono HC12.out ?_
    rintro e W12 ⟨vo12, vc12, rfl, hp12⟩
    obtain ⟨n12, hn12⟩ : ∃ n12, n12 = n11 + 2 := ⟨_, rfl⟩
    rw [← hn12] at hp12 ⊢
    have hb12 : n12 ≤ 14 := by omega
    clear hn12
    have HS12 := hidM (HS11.out.step hp12)
    clear hp12 HC12 p0 p1 p2 p3 p4 p5 p6 p7 p8
    rw [Int.toNat_natCast] at HS12
    obtain ⟨p0, p1, p2, p3, p4, p5, p6, p7, p8⟩ := ce9 HS12.out.box
    go_wp2_with fail
    go_loopw [5, 8] (fun v i wr => ∃ (j n' : Nat) (vo' : Option Addr) (vc' : Nat), j ≤ nds.length ∧ n' ≤ 100014 ∧ i = .int .i64 (j : Int) ∧ v = .slice vo' n' vc' ∧ Hid (PS W V wr R B #[.int .i64 k, .slice fo fs.length cf, .slice no ns.length cn, .int .i64 di, .bool dl, .int .i64 rows, .int .i64 pr, .slice ao nds.length ac, .slice uo sls.length uc] vo' vc' n' (hd4 k ++ numB di.toNat 2 ++ flgB dl ++ numB rows.toNat 4 ++ numB pr.toNat 1 ++ numB nds.length 2 ++ (nds.take j).flatMap ndM))) (fun _ i _ => nds.length - (intOf i).toNat)
    case atStart => exact ⟨0, n12, vo12, vc12, by omega, by omega, rfl, rfl, by rw [List.take_zero, List.flatMap_nil, List.append_nil]; exact HS12.out⟩
    case round =>
      obtain ⟨j, n', vo', vc', hj, hnb, rfl, rfl, HR⟩ := hrel
      clear p0 p1 p2 p3 p4 p5 p6 p7 p8
      obtain ⟨p0, p1, p2, p3, p4, p5, p6, p7, p8⟩ := ce9 HR.out.box
      by_cases hlt : j < nds.length
      · have hltI : (j : Int) < (nds.length : Int) := by omega
        have hj0 : (0 : Int) ≤ (j : Int) := by omega
        have HTK : Hid (hd4 k ++ numB di.toNat 2 ++ flgB dl ++ numB rows.toNat 4 ++ numB pr.toNat 1 ++ numB nds.length 2 ++ (nds.take (j + 1)).flatMap ndM = hd4 k ++ numB di.toNat 2 ++ flgB dl ++ numB rows.toNat 4 ++ numB pr.toNat 1 ++ numB nds.length 2 ++ (nds.take j).flatMap ndM ++ ndM nds[j]) := by show _ = _; rw [flat_next ndM nds j hlt, ← List.append_assoc]
        have HLim : Hid (n' + (ndM nds[j]).length ≤ 100014) := by
          have h1 := HR.out.ap.b.len
          have h2 := HS12.out.ap.b.len
          have h3 := flat_take ndM nds (j + 1)
          rw [flat_next ndM nds j hlt, List.length_append] at h3
          rw [List.length_append, h2] at h1
          have := HNL.out
          show _ ≤ _; omega
        obtain ⟨b, o, hno, hcs⟩ := HNd.out (fun e => by rw [e] at hlt; simp at hlt)
        obtain ⟨c0, c1⟩ := hcs j hlt
        have g0 := HR.out.ap.b.gr.cell' c0 id
        have hsz : 0 ≤ nds[j].1 ∧ nds[j].1 ≤ 4096 ∧ 0 ≤ nds[j].2 ∧ nds[j].2 ≤ nds[j].1 := HNO.out nds[j] (List.getElem_mem hlt)
        have HCell := hidM (And.intro c0 c1)
        have hfx : ndM nds[j] = numB nds[j].1.toNat 4 ++ numB nds[j].2.toNat 4 := rfl
        obtain ⟨x0, hx0⟩ : ∃ x0, x0 = nds[j].1 := ⟨_, rfl⟩
        obtain ⟨x1, hx1⟩ : ∃ x1, x1 = nds[j].2 := ⟨_, rfl⟩
        rw [← hx0] at g0
        rw [← hx0, ← hx1] at hfx HCell hsz
        have HFx := hidM hfx
        rw [hno] at p7
        have HNoe := hidM hno
        clear hcs c0 c1 hno hfx hx0 hx1
        have HC14 := hidM (numberR_at HR.out.ap.b (by omega) x0 4 4 (by omega) (by omega) rfl (by omega))
        go_wp2_with (go_at_call 14; refine Hid.out ?_)
        unfold Hid
        refine Calls.mono HC14.out ?_
        rintro e W14 ⟨vo14, vc14, rfl, hp14⟩
        obtain ⟨n14, hn14⟩ : ∃ n14, n14 = n' + 4 := ⟨_, rfl⟩
        rw [← hn14] at hp14 ⊢
        have hb14 : n14 ≤ 100018 := by omega
        clear hn14
        have HS14 := hidM (HR.out.step hp14)
        clear hp14 HC14 p0 p1 p2 p3 p4 p5 p6 p7 p8
        obtain ⟨p0, p1, p2, p3, p4, p5, p6, p7, p8⟩ := ce9 HS14.out.box
        clear g0
        have g1 := HS14.out.ap.b.gr.cell' HCell.out.2 id
        rw [HNoe.out] at p7
        have HC15 := hidM (numberR_at HS14.out.ap.b (by omega) x1 4 4 (by omega) (by omega) rfl (by omega))
        go_wp2_with (go_at_call 14; refine Hid.out ?_)
        unfold Hid
        refine Calls.mono HC15.out ?_
        rintro e W15 ⟨vo15, vc15, rfl, hp15⟩
        obtain ⟨n15, hn15⟩ : ∃ n15, n15 = n14 + 4 := ⟨_, rfl⟩
        rw [← hn15] at hp15 ⊢
        have hb15 : n15 ≤ 100022 := by omega
        clear hn15
        have HS15 := hidM (HS14.out.step hp15)
        clear hp15 HC15 p0 p1 p2 p3 p4 p5 p6 p7 p8
        obtain ⟨p0, p1, p2, p3, p4, p5, p6, p7, p8⟩ := ce9 HS15.out.box
        have HN : Hid (PS W V W15 R B #[.int .i64 k, .slice fo fs.length cf, .slice no ns.length cn, .int .i64 di, .bool dl, .int .i64 rows, .int .i64 pr, .slice ao nds.length ac, .slice uo sls.length uc] vo15 vc15 n15 (hd4 k ++ numB di.toNat 2 ++ flgB dl ++ numB rows.toNat 4 ++ numB pr.toNat 1 ++ numB nds.length 2 ++ (nds.take (j + 1)).flatMap ndM)) := by
          have := HS15.out
          rw [HTK.out]
          rw [HFx.out, ← List.append_assoc]; exact this
        have hnf : n15 ≤ 100014 := by
          have h1 := HN.out.ap.b.len
          have h2 := HR.out.ap.b.len
          have h3 := HLim.out
          rw [HTK.out, List.length_append, h2] at h1
          omega
        go_wp2_with fail
        go_roundw
        case rel => exact ⟨j + 1, n15, vo15, vc15, by omega, hnf, by simp, rfl, HN.out⟩
        case measure => simp [intOf]; omega
      have hltI : ¬ (j : Int) < (nds.length : Int) := by omega
      have HRf : Hid (PS W V wr R B #[.int .i64 k, .slice fo fs.length cf, .slice no ns.length cn, .int .i64 di, .bool dl, .int .i64 rows, .int .i64 pr, .slice ao nds.length ac, .slice uo sls.length uc] vo' vc' n' (hd4 k ++ numB di.toNat 2 ++ flgB dl ++ numB rows.toNat 4 ++ numB pr.toNat 1 ++ numB nds.length 2 ++ nds.flatMap ndM)) := by have := HR.out; rwa [List.take_of_length_le (by omega)] at this
      have HC16 := hidM (numberR_at HRf.out.ap.b (by omega) (sls.length : Int) 2 2 (by omega) (by omega) rfl (by omega))
      go_wp2_with (go_at_call 14; refine Hid.out ?_)
      unfold Hid
      refine Calls.mono HC16.out ?_
      rintro e W16 ⟨vo16, vc16, rfl, hp16⟩
      obtain ⟨n16, hn16⟩ : ∃ n16, n16 = n' + 2 := ⟨_, rfl⟩
      rw [← hn16] at hp16 ⊢
      have hb16 : n16 ≤ 100016 := by omega
      clear hn16
      have HS16 := hidM (HRf.out.step hp16)
      clear hp16 HC16 p0 p1 p2 p3 p4 p5 p6 p7 p8
      rw [Int.toNat_natCast] at HS16
      obtain ⟨p0, p1, p2, p3, p4, p5, p6, p7, p8⟩ := ce9 HS16.out.box
      go_wp2_with fail
      go_loopw [5, 9] (fun v i wr => ∃ (j n' : Nat) (vo' : Option Addr) (vc' : Nat), j ≤ sls.length ∧ n' ≤ 200016 ∧ i = .int .i64 (j : Int) ∧ v = .slice vo' n' vc' ∧ Hid (PS W V wr R B #[.int .i64 k, .slice fo fs.length cf, .slice no ns.length cn, .int .i64 di, .bool dl, .int .i64 rows, .int .i64 pr, .slice ao nds.length ac, .slice uo sls.length uc] vo' vc' n' (hd4 k ++ numB di.toNat 2 ++ flgB dl ++ numB rows.toNat 4 ++ numB pr.toNat 1 ++ numB nds.length 2 ++ nds.flatMap ndM ++ numB sls.length 2 ++ (sls.take j).flatMap slM))) (fun _ i _ => sls.length - (intOf i).toNat)
      case atStart => exact ⟨0, n16, vo16, vc16, by omega, by omega, rfl, rfl, by rw [List.take_zero, List.flatMap_nil, List.append_nil]; exact HS16.out⟩
      case round =>
        obtain ⟨j, n', vo', vc', hj, hnb, rfl, rfl, HR⟩ := hrel
        clear p0 p1 p2 p3 p4 p5 p6 p7 p8
        obtain ⟨p0, p1, p2, p3, p4, p5, p6, p7, p8⟩ := ce9 HR.out.box
        by_cases hlt : j < sls.length
        · have hltI : (j : Int) < (sls.length : Int) := by omega
          have hj0 : (0 : Int) ≤ (j : Int) := by omega
          have HTK : Hid (hd4 k ++ numB di.toNat 2 ++ flgB dl ++ numB rows.toNat 4 ++ numB pr.toNat 1 ++ numB nds.length 2 ++ nds.flatMap ndM ++ numB sls.length 2 ++ (sls.take (j + 1)).flatMap slM = hd4 k ++ numB di.toNat 2 ++ flgB dl ++ numB rows.toNat 4 ++ numB pr.toNat 1 ++ numB nds.length 2 ++ nds.flatMap ndM ++ numB sls.length 2 ++ (sls.take j).flatMap slM ++ slM sls[j]) := by show _ = _; rw [flat_next slM sls j hlt, ← List.append_assoc]
          have HLim : Hid (n' + (slM sls[j]).length ≤ 200016) := by
            have h1 := HR.out.ap.b.len
            have h2 := HS16.out.ap.b.len
            have h3 := flat_take slM sls (j + 1)
            rw [flat_next slM sls j hlt, List.length_append] at h3
            rw [List.length_append, h2] at h1
            have := HSL.out
            show _ ≤ _; omega
          obtain ⟨b, o, hno, hcs⟩ := HSl.out (fun e => by rw [e] at hlt; simp at hlt)
          obtain ⟨c0, c1, c2⟩ := hcs j hlt
          have g0 := HR.out.ap.b.gr.cell' c0 id
          have hsz : 0 ≤ sls[j].1 ∧ sls[j].1 ≤ 4194304 ∧ 0 ≤ sls[j].2.1 ∧ sls[j].2.1 ≤ 4194304 ∧ 0 ≤ sls[j].2.2 ∧ sls[j].2.2 ≤ 4194304 := HSO.out sls[j] (List.getElem_mem hlt)
          have HCell := hidM (And.intro c0 (And.intro c1 c2))
          have hfx : slM sls[j] = numB sls[j].1.toNat 4 ++ numB sls[j].2.1.toNat 4 ++ numB sls[j].2.2.toNat 4 := rfl
          obtain ⟨x0, hx0⟩ : ∃ x0, x0 = sls[j].1 := ⟨_, rfl⟩
          obtain ⟨x1, hx1⟩ : ∃ x1, x1 = sls[j].2.1 := ⟨_, rfl⟩
          obtain ⟨x2, hx2⟩ : ∃ x2, x2 = sls[j].2.2 := ⟨_, rfl⟩
          rw [← hx0] at g0
          rw [← hx0, ← hx1, ← hx2] at hfx HCell hsz
          have HFx := hidM hfx
          rw [hno] at p8
          have HNoe := hidM hno
          clear hcs c0 c1 c2 hno hfx hx0 hx1 hx2
          have HC18 := hidM (numberR_at HR.out.ap.b (by omega) x0 4 4 (by omega) (by omega) rfl (by omega))
          go_wp2_with (go_at_call 14; refine Hid.out ?_)
          unfold Hid
          refine Calls.mono HC18.out ?_
          rintro e W18 ⟨vo18, vc18, rfl, hp18⟩
          obtain ⟨n18, hn18⟩ : ∃ n18, n18 = n' + 4 := ⟨_, rfl⟩
          rw [← hn18] at hp18 ⊢
          have hb18 : n18 ≤ 200020 := by omega
          clear hn18
          have HS18 := hidM (HR.out.step hp18)
          clear hp18 HC18 p0 p1 p2 p3 p4 p5 p6 p7 p8
          obtain ⟨p0, p1, p2, p3, p4, p5, p6, p7, p8⟩ := ce9 HS18.out.box
          clear g0
          have g1 := HS18.out.ap.b.gr.cell' HCell.out.2.1 id
          rw [HNoe.out] at p8
          have HC19 := hidM (numberR_at HS18.out.ap.b (by omega) x1 4 4 (by omega) (by omega) rfl (by omega))
          go_wp2_with (go_at_call 14; refine Hid.out ?_)
          unfold Hid
          refine Calls.mono HC19.out ?_
          rintro e W19 ⟨vo19, vc19, rfl, hp19⟩
          obtain ⟨n19, hn19⟩ : ∃ n19, n19 = n18 + 4 := ⟨_, rfl⟩
          rw [← hn19] at hp19 ⊢
          have hb19 : n19 ≤ 200024 := by omega
          clear hn19
          have HS19 := hidM (HS18.out.step hp19)
          clear hp19 HC19 p0 p1 p2 p3 p4 p5 p6 p7 p8
          obtain ⟨p0, p1, p2, p3, p4, p5, p6, p7, p8⟩ := ce9 HS19.out.box
          clear g1
          have g2 := HS19.out.ap.b.gr.cell' HCell.out.2.2 id
          rw [HNoe.out] at p8
          have HC20 := hidM (numberR_at HS19.out.ap.b (by omega) x2 4 4 (by omega) (by omega) rfl (by omega))
          go_wp2_with (go_at_call 14; refine Hid.out ?_)
          unfold Hid
          refine Calls.mono HC20.out ?_
          rintro e W20 ⟨vo20, vc20, rfl, hp20⟩
          obtain ⟨n20, hn20⟩ : ∃ n20, n20 = n19 + 4 := ⟨_, rfl⟩
          rw [← hn20] at hp20 ⊢
          have hb20 : n20 ≤ 200028 := by omega
          clear hn20
          have HS20 := hidM (HS19.out.step hp20)
          clear hp20 HC20 p0 p1 p2 p3 p4 p5 p6 p7 p8
          obtain ⟨p0, p1, p2, p3, p4, p5, p6, p7, p8⟩ := ce9 HS20.out.box
          have HN : Hid (PS W V W20 R B #[.int .i64 k, .slice fo fs.length cf, .slice no ns.length cn, .int .i64 di, .bool dl, .int .i64 rows, .int .i64 pr, .slice ao nds.length ac, .slice uo sls.length uc] vo20 vc20 n20 (hd4 k ++ numB di.toNat 2 ++ flgB dl ++ numB rows.toNat 4 ++ numB pr.toNat 1 ++ numB nds.length 2 ++ nds.flatMap ndM ++ numB sls.length 2 ++ (sls.take (j + 1)).flatMap slM)) := by
            have := HS20.out
            rw [HTK.out]
            rw [HFx.out, ← List.append_assoc, ← List.append_assoc]; exact this
          have hnf : n20 ≤ 200016 := by
            have h1 := HN.out.ap.b.len
            have h2 := HR.out.ap.b.len
            have h3 := HLim.out
            rw [HTK.out, List.length_append, h2] at h1
            omega
          go_wp2_with fail
          go_roundw
          case rel => exact ⟨j + 1, n20, vo20, vc20, by omega, hnf, by simp, rfl, HN.out⟩
          case measure => simp [intOf]; omega
        have hltI : ¬ (j : Int) < (sls.length : Int) := by omega
        have HRf : Hid (PS W V wr R B #[.int .i64 k, .slice fo fs.length cf, .slice no ns.length cn, .int .i64 di, .bool dl, .int .i64 rows, .int .i64 pr, .slice ao nds.length ac, .slice uo sls.length uc] vo' vc' n' (hd4 k ++ numB di.toNat 2 ++ flgB dl ++ numB rows.toNat 4 ++ numB pr.toNat 1 ++ numB nds.length 2 ++ nds.flatMap ndM ++ numB sls.length 2 ++ sls.flatMap slM)) := by have := HR.out; rwa [List.take_of_length_le (by omega)] at this
        go_wp2_with fail
        refine bodyPost_ret (v := .tuple #[.slice vo' n' vc', .int .i64 0]) ?_ rfl ⟨vo', vc', n', rfl, ?_⟩
        · simp [results, Tryz.f5, go_sem]
        have := HRf.out.ap.b
        first | (rw [if_neg HC1.out, if_pos HC2.out]; unfold bdyB; simpa [List.append_assoc] using this) | (rw [HC2.out] at this; unfold bdyB; simpa [List.append_assoc] using this) | (unfold bdyB; simpa [List.append_assoc] using this)
  have k2 : (k == 2) = false := beqF c2
  have HC2 := hidM c2
  clear c2
  have HC21 := hidM (numberR_at HS0.out.ap.b (by omega) rows 4 4 (by omega) (by omega) rfl (by omega))
  go_wp2_with (go_at_call 14; refine Hid.out ?_)
  unfold Hid
  try rw [← hR]
  try rw [← hB]
  try rw [← hV]
  clear hR hB hV pa0 pa1 pa3 pa5
  refine Calls.mono HC21.out ?_
  rintro e W21 ⟨vo21, vc21, rfl, hp21⟩
  simp only [Nat.reduceAdd] at hp21
  have HS21 := hidM (HS0.out.step hp21)
  clear hp21 HC21 p0 p1 p2 p3 p4 p5 p6 p7 p8
  obtain ⟨p0, p1, p2, p3, p4, p5, p6, p7, p8⟩ := ce9 HS21.out.box
  have HC22 := hidM (numberR_at HS21.out.ap.b (by omega) pr 1 1 (by omega) (by omega) rfl (by omega))
  go_wp2_with (go_at_call 14; refine Hid.out ?_)
  unfold Hid
  refine Calls.mono HC22.out ?_
  rintro e W22 ⟨vo22, vc22, rfl, hp22⟩
  obtain ⟨n22, hn22⟩ : ∃ n22, n22 = 8 + 1 := ⟨_, rfl⟩
  rw [← hn22] at hp22 ⊢
  have hb22 : n22 ≤ 9 := by omega
  clear hn22
  have HS22 := hidM (HS21.out.step hp22)
  clear hp22 HC22 p0 p1 p2 p3 p4 p5 p6 p7 p8
  obtain ⟨p0, p1, p2, p3, p4, p5, p6, p7, p8⟩ := ce9 HS22.out.box
  have HC23 := hidM (numberR_at HS22.out.ap.b (by omega) (nds.length : Int) 2 2 (by omega) (by omega) rfl (by omega))
  go_wp2_with (go_at_call 14; refine Hid.out ?_)
  unfold Hid
  refine Calls.mono HC23.out ?_
  rintro e W23 ⟨vo23, vc23, rfl, hp23⟩
  obtain ⟨n23, hn23⟩ : ∃ n23, n23 = n22 + 2 := ⟨_, rfl⟩
  rw [← hn23] at hp23 ⊢
  have hb23 : n23 ≤ 11 := by omega
  clear hn23
  have HS23 := hidM (HS22.out.step hp23)
  clear hp23 HC23 p0 p1 p2 p3 p4 p5 p6 p7 p8
  rw [Int.toNat_natCast] at HS23
  obtain ⟨p0, p1, p2, p3, p4, p5, p6, p7, p8⟩ := ce9 HS23.out.box
  go_wp2_with fail
  go_loopw [5, 8] (fun v i wr => ∃ (j n' : Nat) (vo' : Option Addr) (vc' : Nat), j ≤ nds.length ∧ n' ≤ 100011 ∧ i = .int .i64 (j : Int) ∧ v = .slice vo' n' vc' ∧ Hid (PS W V wr R B #[.int .i64 k, .slice fo fs.length cf, .slice no ns.length cn, .int .i64 di, .bool dl, .int .i64 rows, .int .i64 pr, .slice ao nds.length ac, .slice uo sls.length uc] vo' vc' n' (hd4 k ++ numB rows.toNat 4 ++ numB pr.toNat 1 ++ numB nds.length 2 ++ (nds.take j).flatMap ndM))) (fun _ i _ => nds.length - (intOf i).toNat)
  case atStart => exact ⟨0, n23, vo23, vc23, by omega, by omega, rfl, rfl, by rw [List.take_zero, List.flatMap_nil, List.append_nil]; exact HS23.out⟩
  case round =>
    obtain ⟨j, n', vo', vc', hj, hnb, rfl, rfl, HR⟩ := hrel
    clear p0 p1 p2 p3 p4 p5 p6 p7 p8
    obtain ⟨p0, p1, p2, p3, p4, p5, p6, p7, p8⟩ := ce9 HR.out.box
    by_cases hlt : j < nds.length
    · have hltI : (j : Int) < (nds.length : Int) := by omega
      have hj0 : (0 : Int) ≤ (j : Int) := by omega
      have HTK : Hid (hd4 k ++ numB rows.toNat 4 ++ numB pr.toNat 1 ++ numB nds.length 2 ++ (nds.take (j + 1)).flatMap ndM = hd4 k ++ numB rows.toNat 4 ++ numB pr.toNat 1 ++ numB nds.length 2 ++ (nds.take j).flatMap ndM ++ ndM nds[j]) := by show _ = _; rw [flat_next ndM nds j hlt, ← List.append_assoc]
      have HLim : Hid (n' + (ndM nds[j]).length ≤ 100011) := by
        have h1 := HR.out.ap.b.len
        have h2 := HS23.out.ap.b.len
        have h3 := flat_take ndM nds (j + 1)
        rw [flat_next ndM nds j hlt, List.length_append] at h3
        rw [List.length_append, h2] at h1
        have := HNL.out
        show _ ≤ _; omega
      obtain ⟨b, o, hno, hcs⟩ := HNd.out (fun e => by rw [e] at hlt; simp at hlt)
      obtain ⟨c0, c1⟩ := hcs j hlt
      have g0 := HR.out.ap.b.gr.cell' c0 id
      have hsz : 0 ≤ nds[j].1 ∧ nds[j].1 ≤ 4096 ∧ 0 ≤ nds[j].2 ∧ nds[j].2 ≤ nds[j].1 := HNO.out nds[j] (List.getElem_mem hlt)
      have HCell := hidM (And.intro c0 c1)
      have hfx : ndM nds[j] = numB nds[j].1.toNat 4 ++ numB nds[j].2.toNat 4 := rfl
      obtain ⟨x0, hx0⟩ : ∃ x0, x0 = nds[j].1 := ⟨_, rfl⟩
      obtain ⟨x1, hx1⟩ : ∃ x1, x1 = nds[j].2 := ⟨_, rfl⟩
      rw [← hx0] at g0
      rw [← hx0, ← hx1] at hfx HCell hsz
      have HFx := hidM hfx
      rw [hno] at p7
      have HNoe := hidM hno
      clear hcs c0 c1 hno hfx hx0 hx1
      have HC25 := hidM (numberR_at HR.out.ap.b (by omega) x0 4 4 (by omega) (by omega) rfl (by omega))
      go_wp2_with (go_at_call 14; refine Hid.out ?_)
      unfold Hid
      refine Calls.mono HC25.out ?_
      rintro e W25 ⟨vo25, vc25, rfl, hp25⟩
      obtain ⟨n25, hn25⟩ : ∃ n25, n25 = n' + 4 := ⟨_, rfl⟩
      rw [← hn25] at hp25 ⊢
      have hb25 : n25 ≤ 100015 := by omega
      clear hn25
      have HS25 := hidM (HR.out.step hp25)
      clear hp25 HC25 p0 p1 p2 p3 p4 p5 p6 p7 p8
      obtain ⟨p0, p1, p2, p3, p4, p5, p6, p7, p8⟩ := ce9 HS25.out.box
      clear g0
      have g1 := HS25.out.ap.b.gr.cell' HCell.out.2 id
      rw [HNoe.out] at p7
      have HC26 := hidM (numberR_at HS25.out.ap.b (by omega) x1 4 4 (by omega) (by omega) rfl (by omega))
      go_wp2_with (go_at_call 14; refine Hid.out ?_)
      unfold Hid
      refine Calls.mono HC26.out ?_
      rintro e W26 ⟨vo26, vc26, rfl, hp26⟩
      obtain ⟨n26, hn26⟩ : ∃ n26, n26 = n25 + 4 := ⟨_, rfl⟩
      rw [← hn26] at hp26 ⊢
      have hb26 : n26 ≤ 100019 := by omega
      clear hn26
      have HS26 := hidM (HS25.out.step hp26)
      clear hp26 HC26 p0 p1 p2 p3 p4 p5 p6 p7 p8
      obtain ⟨p0, p1, p2, p3, p4, p5, p6, p7, p8⟩ := ce9 HS26.out.box
      have HN : Hid (PS W V W26 R B #[.int .i64 k, .slice fo fs.length cf, .slice no ns.length cn, .int .i64 di, .bool dl, .int .i64 rows, .int .i64 pr, .slice ao nds.length ac, .slice uo sls.length uc] vo26 vc26 n26 (hd4 k ++ numB rows.toNat 4 ++ numB pr.toNat 1 ++ numB nds.length 2 ++ (nds.take (j + 1)).flatMap ndM)) := by
        have := HS26.out
        rw [HTK.out]
        rw [HFx.out, ← List.append_assoc]; exact this
      have hnf : n26 ≤ 100011 := by
        have h1 := HN.out.ap.b.len
        have h2 := HR.out.ap.b.len
        have h3 := HLim.out
        rw [HTK.out, List.length_append, h2] at h1
        omega
      go_wp2_with fail
      go_roundw
      case rel => exact ⟨j + 1, n26, vo26, vc26, by omega, hnf, by simp, rfl, HN.out⟩
      case measure => simp [intOf]; omega
    have hltI : ¬ (j : Int) < (nds.length : Int) := by omega
    have HRf : Hid (PS W V wr R B #[.int .i64 k, .slice fo fs.length cf, .slice no ns.length cn, .int .i64 di, .bool dl, .int .i64 rows, .int .i64 pr, .slice ao nds.length ac, .slice uo sls.length uc] vo' vc' n' (hd4 k ++ numB rows.toNat 4 ++ numB pr.toNat 1 ++ numB nds.length 2 ++ nds.flatMap ndM)) := by have := HR.out; rwa [List.take_of_length_le (by omega)] at this
    have HC27 := hidM (numberR_at HRf.out.ap.b (by omega) (sls.length : Int) 2 2 (by omega) (by omega) rfl (by omega))
    go_wp2_with (go_at_call 14; refine Hid.out ?_)
    unfold Hid
    refine Calls.mono HC27.out ?_
    rintro e W27 ⟨vo27, vc27, rfl, hp27⟩
    obtain ⟨n27, hn27⟩ : ∃ n27, n27 = n' + 2 := ⟨_, rfl⟩
    rw [← hn27] at hp27 ⊢
    have hb27 : n27 ≤ 100013 := by omega
    clear hn27
    have HS27 := hidM (HRf.out.step hp27)
    clear hp27 HC27 p0 p1 p2 p3 p4 p5 p6 p7 p8
    rw [Int.toNat_natCast] at HS27
    obtain ⟨p0, p1, p2, p3, p4, p5, p6, p7, p8⟩ := ce9 HS27.out.box
    go_wp2_with fail
    go_loopw [5, 9] (fun v i wr => ∃ (j n' : Nat) (vo' : Option Addr) (vc' : Nat), j ≤ sls.length ∧ n' ≤ 200013 ∧ i = .int .i64 (j : Int) ∧ v = .slice vo' n' vc' ∧ Hid (PS W V wr R B #[.int .i64 k, .slice fo fs.length cf, .slice no ns.length cn, .int .i64 di, .bool dl, .int .i64 rows, .int .i64 pr, .slice ao nds.length ac, .slice uo sls.length uc] vo' vc' n' (hd4 k ++ numB rows.toNat 4 ++ numB pr.toNat 1 ++ numB nds.length 2 ++ nds.flatMap ndM ++ numB sls.length 2 ++ (sls.take j).flatMap slM))) (fun _ i _ => sls.length - (intOf i).toNat)
    case atStart => exact ⟨0, n27, vo27, vc27, by omega, by omega, rfl, rfl, by rw [List.take_zero, List.flatMap_nil, List.append_nil]; exact HS27.out⟩
    case round =>
      obtain ⟨j, n', vo', vc', hj, hnb, rfl, rfl, HR⟩ := hrel
      clear p0 p1 p2 p3 p4 p5 p6 p7 p8
      obtain ⟨p0, p1, p2, p3, p4, p5, p6, p7, p8⟩ := ce9 HR.out.box
      by_cases hlt : j < sls.length
      · have hltI : (j : Int) < (sls.length : Int) := by omega
        have hj0 : (0 : Int) ≤ (j : Int) := by omega
        have HTK : Hid (hd4 k ++ numB rows.toNat 4 ++ numB pr.toNat 1 ++ numB nds.length 2 ++ nds.flatMap ndM ++ numB sls.length 2 ++ (sls.take (j + 1)).flatMap slM = hd4 k ++ numB rows.toNat 4 ++ numB pr.toNat 1 ++ numB nds.length 2 ++ nds.flatMap ndM ++ numB sls.length 2 ++ (sls.take j).flatMap slM ++ slM sls[j]) := by show _ = _; rw [flat_next slM sls j hlt, ← List.append_assoc]
        have HLim : Hid (n' + (slM sls[j]).length ≤ 200013) := by
          have h1 := HR.out.ap.b.len
          have h2 := HS27.out.ap.b.len
          have h3 := flat_take slM sls (j + 1)
          rw [flat_next slM sls j hlt, List.length_append] at h3
          rw [List.length_append, h2] at h1
          have := HSL.out
          show _ ≤ _; omega
        obtain ⟨b, o, hno, hcs⟩ := HSl.out (fun e => by rw [e] at hlt; simp at hlt)
        obtain ⟨c0, c1, c2⟩ := hcs j hlt
        have g0 := HR.out.ap.b.gr.cell' c0 id
        have hsz : 0 ≤ sls[j].1 ∧ sls[j].1 ≤ 4194304 ∧ 0 ≤ sls[j].2.1 ∧ sls[j].2.1 ≤ 4194304 ∧ 0 ≤ sls[j].2.2 ∧ sls[j].2.2 ≤ 4194304 := HSO.out sls[j] (List.getElem_mem hlt)
        have HCell := hidM (And.intro c0 (And.intro c1 c2))
        have hfx : slM sls[j] = numB sls[j].1.toNat 4 ++ numB sls[j].2.1.toNat 4 ++ numB sls[j].2.2.toNat 4 := rfl
        obtain ⟨x0, hx0⟩ : ∃ x0, x0 = sls[j].1 := ⟨_, rfl⟩
        obtain ⟨x1, hx1⟩ : ∃ x1, x1 = sls[j].2.1 := ⟨_, rfl⟩
        obtain ⟨x2, hx2⟩ : ∃ x2, x2 = sls[j].2.2 := ⟨_, rfl⟩
        rw [← hx0] at g0
        rw [← hx0, ← hx1, ← hx2] at hfx HCell hsz
        have HFx := hidM hfx
        rw [hno] at p8
        have HNoe := hidM hno
        clear hcs c0 c1 c2 hno hfx hx0 hx1 hx2
        have HC29 := hidM (numberR_at HR.out.ap.b (by omega) x0 4 4 (by omega) (by omega) rfl (by omega))
        go_wp2_with (go_at_call 14; refine Hid.out ?_)
        unfold Hid
        refine Calls.mono HC29.out ?_
        rintro e W29 ⟨vo29, vc29, rfl, hp29⟩
        obtain ⟨n29, hn29⟩ : ∃ n29, n29 = n' + 4 := ⟨_, rfl⟩
        rw [← hn29] at hp29 ⊢
        have hb29 : n29 ≤ 200017 := by omega
        clear hn29
        have HS29 := hidM (HR.out.step hp29)
        clear hp29 HC29 p0 p1 p2 p3 p4 p5 p6 p7 p8
        obtain ⟨p0, p1, p2, p3, p4, p5, p6, p7, p8⟩ := ce9 HS29.out.box
        clear g0
        have g1 := HS29.out.ap.b.gr.cell' HCell.out.2.1 id
        rw [HNoe.out] at p8
        have HC30 := hidM (numberR_at HS29.out.ap.b (by omega) x1 4 4 (by omega) (by omega) rfl (by omega))
        go_wp2_with (go_at_call 14; refine Hid.out ?_)
        unfold Hid
        refine Calls.mono HC30.out ?_
        rintro e W30 ⟨vo30, vc30, rfl, hp30⟩
        obtain ⟨n30, hn30⟩ : ∃ n30, n30 = n29 + 4 := ⟨_, rfl⟩
        rw [← hn30] at hp30 ⊢
        have hb30 : n30 ≤ 200021 := by omega
        clear hn30
        have HS30 := hidM (HS29.out.step hp30)
        clear hp30 HC30 p0 p1 p2 p3 p4 p5 p6 p7 p8
        obtain ⟨p0, p1, p2, p3, p4, p5, p6, p7, p8⟩ := ce9 HS30.out.box
        clear g1
        have g2 := HS30.out.ap.b.gr.cell' HCell.out.2.2 id
        rw [HNoe.out] at p8
        have HC31 := hidM (numberR_at HS30.out.ap.b (by omega) x2 4 4 (by omega) (by omega) rfl (by omega))
        go_wp2_with (go_at_call 14; refine Hid.out ?_)
        unfold Hid
        refine Calls.mono HC31.out ?_
        rintro e W31 ⟨vo31, vc31, rfl, hp31⟩
        obtain ⟨n31, hn31⟩ : ∃ n31, n31 = n30 + 4 := ⟨_, rfl⟩
        rw [← hn31] at hp31 ⊢
        have hb31 : n31 ≤ 200025 := by omega
        clear hn31
        have HS31 := hidM (HS30.out.step hp31)
        clear hp31 HC31 p0 p1 p2 p3 p4 p5 p6 p7 p8
        obtain ⟨p0, p1, p2, p3, p4, p5, p6, p7, p8⟩ := ce9 HS31.out.box
        have HN : Hid (PS W V W31 R B #[.int .i64 k, .slice fo fs.length cf, .slice no ns.length cn, .int .i64 di, .bool dl, .int .i64 rows, .int .i64 pr, .slice ao nds.length ac, .slice uo sls.length uc] vo31 vc31 n31 (hd4 k ++ numB rows.toNat 4 ++ numB pr.toNat 1 ++ numB nds.length 2 ++ nds.flatMap ndM ++ numB sls.length 2 ++ (sls.take (j + 1)).flatMap slM)) := by
          have := HS31.out
          rw [HTK.out]
          rw [HFx.out, ← List.append_assoc, ← List.append_assoc]; exact this
        have hnf : n31 ≤ 200013 := by
          have h1 := HN.out.ap.b.len
          have h2 := HR.out.ap.b.len
          have h3 := HLim.out
          rw [HTK.out, List.length_append, h2] at h1
          omega
        go_wp2_with fail
        go_roundw
        case rel => exact ⟨j + 1, n31, vo31, vc31, by omega, hnf, by simp, rfl, HN.out⟩
        case measure => simp [intOf]; omega
      have hltI : ¬ (j : Int) < (sls.length : Int) := by omega
      have HRf : Hid (PS W V wr R B #[.int .i64 k, .slice fo fs.length cf, .slice no ns.length cn, .int .i64 di, .bool dl, .int .i64 rows, .int .i64 pr, .slice ao nds.length ac, .slice uo sls.length uc] vo' vc' n' (hd4 k ++ numB rows.toNat 4 ++ numB pr.toNat 1 ++ numB nds.length 2 ++ nds.flatMap ndM ++ numB sls.length 2 ++ sls.flatMap slM)) := by have := HR.out; rwa [List.take_of_length_le (by omega)] at this
      go_wp2_with fail
      refine bodyPost_ret (v := .tuple #[.slice vo' n' vc', .int .i64 0]) ?_ rfl ⟨vo', vc', n', rfl, ?_⟩
      · simp [results, Tryz.f5, go_sem]
      have := HRf.out.ap.b
      first | (rw [if_neg HC1.out, if_neg HC2.out]; unfold bdyB; simpa [List.append_assoc] using this) | (unfold bdyB; simpa [List.append_assoc] using this)
end Go.Proofs.YtdihbfjjddmbiaaGreatDoor.Kit
