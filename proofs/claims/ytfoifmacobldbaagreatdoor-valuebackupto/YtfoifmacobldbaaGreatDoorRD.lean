import Derived.Test.YtfoifmacobldbaaGreatDoorRB
set_option maxRecDepth 100000
set_option maxHeartbeats 4000000
namespace Go.Proofs.YtfoifmacobldbaaGreatDoor.Kit
open Go.RowKit Go.Shelf Go.Deep
set_option linter.unusedVariables false
set_option linter.unusedSimpArgs false
attribute [local go_sem] run_store_func
/-! ### appendParts 48 -/
theorem keepG7 {a V v1 : World} (h : Fr a V v1) {kb ko : Nat} {c0 c1 c2 c3 c4 c5 c6 : Value} (hk : ¬ IsB a V kb)
    (hc : V.cell? ⟨kb, ko, none⟩ = some c0 ∧ V.cell? ⟨kb, ko + 1, none⟩ = some c1 ∧ V.cell? ⟨kb, ko + 2, none⟩ = some c2 ∧ V.cell? ⟨kb, ko + 3, none⟩ = some c3 ∧ V.cell? ⟨kb, ko + 4, none⟩ = some c4 ∧ V.cell? ⟨kb, ko + 5, none⟩ = some c5 ∧ V.cell? ⟨kb, ko + 6, none⟩ = some c6) :
    v1.cell? ⟨kb, ko, none⟩ = some c0 ∧ v1.cell? ⟨kb, ko + 1, none⟩ = some c1 ∧ v1.cell? ⟨kb, ko + 2, none⟩ = some c2 ∧ v1.cell? ⟨kb, ko + 3, none⟩ = some c3 ∧ v1.cell? ⟨kb, ko + 4, none⟩ = some c4 ∧ v1.cell? ⟨kb, ko + 5, none⟩ = some c5 ∧ v1.cell? ⟨kb, ko + 6, none⟩ = some c6 :=
  ⟨h.cell' hc.1 hk, h.cell' hc.2.1 hk, h.cell' hc.2.2.1 hk, h.cell' hc.2.2.2.1 hk, h.cell' hc.2.2.2.2.1 hk, h.cell' hc.2.2.2.2.2.1 hk, h.cell' hc.2.2.2.2.2.2 hk⟩
theorem keepG11 {a V v1 : World} (h : Fr a V v1) {b kb ko : Nat} {y0 y1 y2 y3 c0 c1 c2 c3 c4 c5 c6 : Value} (hb : ¬ IsB a V b) (hk : ¬ IsB a V kb)
    (hc : V.cell? ⟨b, 0, none⟩ = some y0 ∧ V.cell? ⟨b, 1, none⟩ = some y1 ∧ V.cell? ⟨b, 2, none⟩ = some y2 ∧ V.cell? ⟨b, 3, none⟩ = some y3 ∧ V.cell? ⟨kb, ko, none⟩ = some c0 ∧ V.cell? ⟨kb, ko + 1, none⟩ = some c1 ∧ V.cell? ⟨kb, ko + 2, none⟩ = some c2 ∧ V.cell? ⟨kb, ko + 3, none⟩ = some c3 ∧ V.cell? ⟨kb, ko + 4, none⟩ = some c4 ∧ V.cell? ⟨kb, ko + 5, none⟩ = some c5 ∧ V.cell? ⟨kb, ko + 6, none⟩ = some c6) :
    v1.cell? ⟨b, 0, none⟩ = some y0 ∧ v1.cell? ⟨b, 1, none⟩ = some y1 ∧ v1.cell? ⟨b, 2, none⟩ = some y2 ∧ v1.cell? ⟨b, 3, none⟩ = some y3 ∧ v1.cell? ⟨kb, ko, none⟩ = some c0 ∧ v1.cell? ⟨kb, ko + 1, none⟩ = some c1 ∧ v1.cell? ⟨kb, ko + 2, none⟩ = some c2 ∧ v1.cell? ⟨kb, ko + 3, none⟩ = some c3 ∧ v1.cell? ⟨kb, ko + 4, none⟩ = some c4 ∧ v1.cell? ⟨kb, ko + 5, none⟩ = some c5 ∧ v1.cell? ⟨kb, ko + 6, none⟩ = some c6 :=
  ⟨h.cell' hc.1 hb, h.cell' hc.2.1 hb, h.cell' hc.2.2.1 hb, h.cell' hc.2.2.2.1 hb, keepG7 h hk hc.2.2.2.2⟩
theorem name84' (g : FT) (go : Option Addr) (gc : Nat) (hs : g.name.size ≤ 64) (W : World) : Calls Tryz.prog 84 #[.agg #[.string g.name, .bool g.nul, .int .i64 g.kind, .int .i64 g.width, .int .i64 g.id, .int .i64 g.index, .slice go g.kids.length gc]] W fun e W' => e = .returned (.string ⟨(QB.nm g ++ [58]).toArray⟩) ∧ Gr W W' := by
  have h := name84 g.name g.nul g.kind g.width g.id g.index go g.kids.length gc (by omega) W
  have e : g.name ++ ⟨#[58]⟩ = (⟨(QB.nm g ++ [58]).toArray⟩ : ByteArray) := by
    have := ba_app g.name.data.toList [58]
    rw [QF.bytes_eq] at this
    exact this
  rw [e] at h
  exact h
theorem parts48 (S : Nat → Prop) (D d : Nat) (a : World) (fs : List FT) (fp : Option Addr) (fc : Nat) (list : List VT) (vo : Option Addr) (vc : Nat) (T : FT → VT → List UInt8) (hS : ∀ b, S b → b < a.heap.size ∧ ¬ IsB a a b) (hf : RowAt S a (D + 1) fp fs) (hv : VRow S a (d + 1) vo list) (hlen : list.length = fs.length) (hnm : ∀ g ∈ fs, g.name.size ≤ 64)
    (h23 : ∀ k (h1 : k < fs.length) (h2 : k < list.length) go gc, fs[k].kids.length ≤ gc → RowAt S a D go fs[k].kids → ∀ ao ca, VOk list[k] → VRow S a d ao list[k].list → PrC a fs[k] go gc list[k] ao ca (T fs[k] list[k])) (u W : World) (bo : Option Addr) (bc n : Nat) (bs : List UInt8) (hB : Byts (a, u) W bo bc n bs) (hn : n + (123 :: (QB.joinC (List.zipWith (fun g x => QB.nm g ++ 58 :: T g x) fs list) ++ [125])).length < 100000000000) :
    Calls Tryz.prog 48 #[.slice bo n bc, .slice fp fs.length fc, .slice vo list.length vc] W (PrA (a, u) bs (123 :: (QB.joinC (List.zipWith (fun g x => QB.nm g ++ 58 :: T g x) fs list) ++ [125]))) := by
  obtain ⟨ps, hps⟩ : ∃ ps, ps = List.zipWith (fun g x => QB.nm g ++ 58 :: T g x) fs list := ⟨_, rfl⟩
  rw [← hps] at hn ⊢
  have hpl : ps.length = list.length := by rw [hps]; simp; omega
  obtain ⟨L, hL⟩ : ∃ L, L = list.length := ⟨_, rfl⟩
  have hFL : fs.length = L := by omega
  rw [hFL, ← hL]
  have hLb : L ≤ 1000000000000 := by rw [hL]; exact hv.len
  have hbl := hB.len
  have hjl : ∀ k, (QB.joinC (ps.take k)).length ≤ (QB.joinC ps).length := fun k => joinC_le _ _
  simp only [List.length_cons, List.length_append, List.length_nil] at hn
  have HJ := hidM hjl
  have HBL := hidM hbl
  have HLE := hidM (And.intro hL (And.intro hFL (And.intro hps hpl)))
  have HV := hidM hv
  have HFR := hidM hf
  have HS := hidM hS
  have H23 := hidM h23
  have HNM := hidM hnm
  have HFr := hidM hB.fr
  have HB1 := hidM hB.here
  have hnn : n < 100000000000 := by omega
  obtain ⟨J, hJ⟩ : ∃ J, J = (QB.joinC ps).length := ⟨_, rfl⟩
  rw [← hJ] at hn HJ
  clear hB hv hf hS h23 hL hjl hbl hJ hlen hnm hps hpl hFL
  go_enter Tryz.func48, Tryz.ntmps48
  go_wp2_with (at_builtin; refine Hid.out ?_)
  unfold Hid
  refine wpList_append_any _ rfl (.tmp 9) (.tmp 10) 52 52 rfl 5 (.int .u8 0) 1 Tryz.underlying52 info5 rfl _ n (bv bs) rfl (HB1.out.gr' (gr_alloc W _)).own _ 1 [.int .u8 123] rfl (src_u8 W [.int .u8 123] 1 rfl (by simp)) (by omega) (by omega) ?_
  intro v' w1 hown hgrow hblk
  obtain ⟨vo1, vc1, rfl⟩ := own_formN hown
  have HI : Hid (ItI a W w1 bs (123 :: QB.joinC (ps.take 0)) vo1 vc1 (n + 1)) := ⟨_, (HB1.out.gr' (gr_alloc W _)).app (us := [123]) rfl hown hgrow hblk, by simpa [QB.joinC] using PrQ.all bs [123]⟩
  clear hown hgrow hblk HB1
  go_wp2_with fail
  go_loopw [0, 14] (fun x p wr => ∃ (k m : Nat) (vo2 : Option Addr) (vc2 : Nat), k ≤ L ∧ m ≤ n + 1 + J ∧ p = .int .i64 (k : Int) ∧ x = .slice vo2 m vc2 ∧ Hid (ItI a W wr bs (123 :: QB.joinC (ps.take k)) vo2 vc2 m)) (fun _ p _ => L - (intOf p).toNat)
  case atStart => exact ⟨0, n + 1, vo1, vc1, by omega, by omega, rfl, rfl, HI⟩
  case round =>
    obtain ⟨k, m, vo2, vc2, hk, hm, rfl, rfl, HK⟩ := hrel
    clear HI
    by_cases hlt : k < L
    · have hkl : k < list.length := by have := HLE.out.1; omega
      have hkf : k < fs.length := by have := HLE.out.2.1; omega
      have hkp : k < ps.length := by have := HLE.out.2.2.2; omega
      obtain ⟨b, o, rfl, hb, hcs⟩ := HV.out.2 (fun e => by subst e; simp at hkl)
      obtain ⟨ao', ca', hc, hle, hok, hrow⟩ := hcs k hkl
      obtain ⟨fb, fo, rfl, hfb, hfs⟩ := HFR.out.2 (fun e => by subst e; simp at hkf)
      obtain ⟨go, gc, hgcell, hgle, hgrow2⟩ := hfs k hkf
      have hcall := H23.out k hkf hkl go gc hgle hgrow2 ao' ca' hok hrow
      have hnx : QB.joinC (ps.take (k + 1)) = QB.joinC (ps.take k) ++ ((if k = 0 then [] else [44]) ++ ((QB.nm fs[k] ++ [58]) ++ T fs[k] list[k])) := by
        rw [List.take_succ_eq_append_getElem hkp, joinC_snoc]
        have e1 : ps[k]'hkp = (QB.nm fs[k] ++ [58]) ++ T fs[k] list[k] := by
          have e2 := HLE.out.2.2.1
          subst e2
          simp
        rw [e1]
        simp [Nat.min_eq_left (Nat.le_of_lt hkp)]
      have hjk := HJ.out (k + 1)
      rw [hnx] at hjk
      have hnm : Hid ((fs[k]'hkf).name.size ≤ 64) := HNM.out _ (List.getElem_mem hkf)
      obtain ⟨v, hve⟩ : ∃ v, v = list[k]'hkl := ⟨_, rfl⟩
      obtain ⟨g, hge⟩ : ∃ g, g = fs[k]'hkf := ⟨_, rfl⟩
      rw [← hve] at hcall hnx hc hjk
      rw [← hge] at hcall hnx hgcell hjk hnm
      obtain ⟨b2, hy, hq⟩ := HK.out
      have hcw := hc.kept (hy.gr.block b (HS.out b hb).1 id)
      obtain ⟨c0, c1, c2, c3⟩ := hcw
      have hgw := hgcell.kept (hy.gr.block fb (HS.out fb hfb).1 id)
      have hml := hy.len
      have hql := hq.1
      have hbl := HBL.out
      obtain ⟨V, hV⟩ : ∃ V, wr.alloc (.cells #[.bool v.nul, .int .i64 v.num, .string v.text, .slice ao' v.list.length ca'] 29) = V := ⟨_, rfl⟩
      have hgV : Gr wr V := by rw [← hV]; exact gr_alloc wr _
      have h4 : V.heap[wr.heap.size]? = some (.cells #[.bool v.nul, .int .i64 v.num, .string v.text, .slice ao' v.list.length ca'] 29) := by rw [← hV]; exact heap_alloc_new wr _
      have HC : Hid (V.drew.cell? ⟨wr.heap.size, 0, none⟩ = some (.bool v.nul) ∧ V.drew.cell? ⟨wr.heap.size, 1, none⟩ = some (.int .i64 v.num) ∧ V.drew.cell? ⟨wr.heap.size, 2, none⟩ = some (.string v.text) ∧ V.drew.cell? ⟨wr.heap.size, 3, none⟩ = some (.slice ao' v.list.length ca') ∧ V.drew.cell? ⟨fb, fo + k * 7, none⟩ = some (.string g.name) ∧ V.drew.cell? ⟨fb, fo + k * 7 + 1, none⟩ = some (.bool g.nul) ∧ V.drew.cell? ⟨fb, fo + k * 7 + 2, none⟩ = some (.int .i64 g.kind) ∧ V.drew.cell? ⟨fb, fo + k * 7 + 3, none⟩ = some (.int .i64 g.width) ∧ V.drew.cell? ⟨fb, fo + k * 7 + 4, none⟩ = some (.int .i64 g.id) ∧ V.drew.cell? ⟨fb, fo + k * 7 + 5, none⟩ = some (.int .i64 g.index) ∧ V.drew.cell? ⟨fb, fo + k * 7 + 6, none⟩ = some (.slice go g.kids.length gc)) := by
        have hx : V.cell? ⟨wr.heap.size, 0, none⟩ = some (.bool v.nul) ∧ V.cell? ⟨wr.heap.size, 1, none⟩ = some (.int .i64 v.num) ∧ V.cell? ⟨wr.heap.size, 2, none⟩ = some (.string v.text) ∧ V.cell? ⟨wr.heap.size, 3, none⟩ = some (.slice ao' v.list.length ca') := by simp [World.cell?, h4]
        exact ⟨hx.1, hx.2.1, hx.2.2.1, hx.2.2.2, hgV.cell' hgw.c0 id, hgV.cell' hgw.c1 id, hgV.cell' hgw.c2 id, hgV.cell' hgw.c3 id, hgV.cell' hgw.c4 id, hgV.cell' hgw.c5 id, hgV.cell' hgw.c6 id⟩
      have hNf : ¬ IsB a V.drew fb := by
        have h0 := (HS.out fb hfb).2
        intro e
        have := e.1
        have := (HS.out fb hfb).1
        omega
      have hN := hidM (And.intro (notB (a := a) (W := V.drew) h4 (by decide)) hNf)
      have HYW : Hid (Fr a W V.drew) := ((hy.gr' hgV).gr' gr_drew).fr
      have HN := hidM hnx
      have HQ := hidM hq
      have HCL := hidM hcall
      have HBV : Hid (Byts (a, V.drew) V.drew vo2 vc2 m b2) := ((hy.gr' hgV).gr' gr_drew).here
      have hml2 : Hid (m + (if k = 0 then [] else [44] : List UInt8).length + (QB.nm g ++ [58]).length + (T g v).length < 100000000000 ∧ m < 1000000000000) := by
        simp only [List.length_cons, List.length_append, List.length_nil] at hql hjk ⊢
        constructor <;> omega
      have hltI : (k : Int) < (L : Int) := by omega
      clear hcs hc hok hrow hcall hve hge hle hnx hjk hy hq hml hql hbl hgV h4 hfs hgcell hgle hgrow2 hgw hNf
      go_wp2_with fail
      refine wp_region_held_drew (S := fun w' => w'.cell? ⟨fb, fo + k * 7, none⟩ = some (.string g.name) ∧ w'.cell? ⟨fb, fo + k * 7 + 1, none⟩ = some (.bool g.nul) ∧ w'.cell? ⟨fb, fo + k * 7 + 2, none⟩ = some (.int .i64 g.kind) ∧ w'.cell? ⟨fb, fo + k * 7 + 3, none⟩ = some (.int .i64 g.width) ∧ w'.cell? ⟨fb, fo + k * 7 + 4, none⟩ = some (.int .i64 g.id) ∧ w'.cell? ⟨fb, fo + k * 7 + 5, none⟩ = some (.int .i64 g.index) ∧ w'.cell? ⟨fb, fo + k * 7 + 6, none⟩ = some (.slice go g.kids.length gc)) (by kernel_rfl) (HC.out.2.2.2.2) (fun hHeld => ?_)
      refine wpAnyH_take (i := 0) (oi := { dst := some 19, op := Op.move (Operand.tmp 0), type := 52, pos := "print.go:104", after := #[], guard := none }) (v := ?v0u1) rfl (by kernel_rfl) (by kernel_rfl) (by kernel_rfl) (fun _ _ _ h => h) (Or.inl ⟨by rfl, ?y0u1⟩) (by assumption) ?r0u1
      case y0u1 => (intro w hSw; obtain ⟨f0, f1, f2, f3, f4, f5, f6⟩ := hSw; go_simp; (try with_reducible rfl))
      (try simp only [Act.put]); (try simp only [List.setIfInBounds_toArray]); (try simp only [List.set_cons_succ]); (try simp only [List.set_cons_zero])
      refine wpAnyH_take (i := 1) (oi := { dst := some 20, op := Op.move (Operand.tmp 7), type := 3, pos := "print.go:104", after := #[], guard := none }) (v := ?v1u2) rfl (by kernel_rfl) (by kernel_rfl) (by kernel_rfl) (fun _ _ _ h => h) (Or.inl ⟨by rfl, ?y1u2⟩) (by assumption) ?r1u2
      case y1u2 => (intro w hSw; obtain ⟨f0, f1, f2, f3, f4, f5, f6⟩ := hSw; go_simp; (try with_reducible rfl))
      (try simp only [Act.put]); (try simp only [List.setIfInBounds_toArray]); (try simp only [List.set_cons_succ]); (try simp only [List.set_cons_zero])
      refine wpAnyH_take (i := 3) (oi := { dst := some 22, op := Op.move (Operand.tmp 1), type := 22, pos := "print.go:104", after := #[], guard := none }) (v := ?v3u3) rfl (by kernel_rfl) (by kernel_rfl) (by kernel_rfl) (fun _ _ _ h => h) (Or.inl ⟨by rfl, ?y3u3⟩) (by assumption) ?r3u3
      case y3u3 => (intro w hSw; obtain ⟨f0, f1, f2, f3, f4, f5, f6⟩ := hSw; go_simp; (try with_reducible rfl))
      (try simp only [Act.put]); (try simp only [List.setIfInBounds_toArray]); (try simp only [List.set_cons_succ]); (try simp only [List.set_cons_zero])
      refine wpAnyH_take (i := 4) (oi := { dst := some 23, op := Op.move (Operand.tmp 7), type := 3, pos := "print.go:104", after := #[], guard := none }) (v := ?v4u4) rfl (by kernel_rfl) (by kernel_rfl) (by kernel_rfl) (fun _ _ _ h => h) (Or.inl ⟨by rfl, ?y4u4⟩) (by assumption) ?r4u4
      case y4u4 => (intro w hSw; obtain ⟨f0, f1, f2, f3, f4, f5, f6⟩ := hSw; go_simp; (try with_reducible rfl))
      (try simp only [Act.put]); (try simp only [List.setIfInBounds_toArray]); (try simp only [List.set_cons_succ]); (try simp only [List.set_cons_zero])
      refine wpAnyH_take (i := 5) (oi := { dst := some 24, op := Op.indexAddr 22 (Operand.tmp 22) (Operand.tmp 23), type := 0, pos := "print.go:104", after := #[{ on := 3, ground := Ground.data }, { on := 4, ground := Ground.data }], guard := none }) (v := ?v5u5) rfl (by kernel_rfl) (by kernel_rfl) (by kernel_rfl) (fun _ _ _ h => h) (Or.inl ⟨by rfl, ?y5u5⟩) (by assumption) ?r5u5
      case y5u5 => (intro w hSw; obtain ⟨f0, f1, f2, f3, f4, f5, f6⟩ := hSw; go_simp; (try with_reducible rfl))
      (try simp only [Act.put]); (try simp only [List.setIfInBounds_toArray]); (try simp only [List.set_cons_succ]); (try simp only [List.set_cons_zero])
      refine wpAnyH_take (i := 6) (oi := { dst := some 25, op := Op.load 26 (Operand.tmp 24), type := 26, pos := "print.go:104", after := #[{ on := 5, ground := Ground.data }], guard := none }) (v := ?v6u6) rfl (by kernel_rfl) (by kernel_rfl) (by kernel_rfl) (fun _ _ _ h => h) (Or.inl ⟨by rfl, ?y6u6⟩) (by assumption) ?r6u6
      case y6u6 => (intro w hSw; obtain ⟨f0, f1, f2, f3, f4, f5, f6⟩ := hSw; go_simp; (try with_reducible rfl))
      (try simp only [Act.put]); (try simp only [List.setIfInBounds_toArray]); (try simp only [List.set_cons_succ]); (try simp only [List.set_cons_zero])
      refine wpAnyH_ready (rs := [2]) (by kernel_rfl) (by simp) ?_
      refine AllReadyH.cons (o := { dst := some 21, op := Op.call { callee := Callee.value (Operand.func 83), args := #[Operand.tmp 19, Operand.tmp 20], argTypes := #[52, 3] }, type := 52, pos := "print.go:104", after := #[{ on := 0, ground := Ground.data }, { on := 1, ground := Ground.data }], guard := none }) rfl (fun Kc hK => ?_) AllReadyH.nil
      go_simp
      go_at_call 83
      refine Calls.mono (comma83 k (a, V.drew) V.drew _ _ _ _ HBV hml2.out.2) ?_
      rintro e' v1' ⟨vo3, vc3, n3, rfl, hb3⟩; have HE := hidM hb3; clear hb3
      go_wp2_with fail
      refine hK.out _ _ (keepG7 HE.out.fr hN.out.2 HC.out.2.2.2.2) (fun hHeld => ?_)
      clear hK Kc
      (try simp only [Act.put]); (try simp only [List.setIfInBounds_toArray]); (try simp only [List.set_cons_succ]); (try simp only [List.set_cons_zero])
      refine wpAnyH_ready (rs := [7]) (by kernel_rfl) (by simp) ?_
      refine AllReadyH.cons (o := { dst := some 26, op := Op.call { callee := Callee.value (Operand.func 84), args := #[Operand.tmp 25], argTypes := #[26] }, type := 9, pos := "print.go:104", after := #[{ on := 6, ground := Ground.data }, { on := 2, ground := Ground.chain }], guard := none }) rfl (fun Kc hK => ?_) AllReadyH.nil
      go_simp
      go_at_call 84
      refine Calls.mono (name84' g go gc hnm.out v1') ?_
      rintro e' v2' ⟨rfl, hg2⟩; have HE2 := hidM (HE.out.gr' hg2); clear hg2
      go_wp2_with fail
      refine hK.out _ _ (keepG7 HE2.out.fr hN.out.2 HC.out.2.2.2.2) (fun hHeld => ?_)
      clear hK Kc
      (try simp only [Act.put]); (try simp only [List.setIfInBounds_toArray]); (try simp only [List.set_cons_succ]); (try simp only [List.set_cons_zero])
      refine wpAnyH_ready (rs := [8]) (by kernel_rfl) (by simp) ?_
      refine AllReadyH.cons (o := { dst := some 27, op := Op.call { callee := Callee.builtin Builtin.append, args := #[Operand.tmp 21, Operand.tmp 26], argTypes := #[52, 9] }, type := 52, pos := "print.go:104", after := #[{ on := 2, ground := Ground.data }, { on := 7, ground := Ground.data }, { on := 7, ground := Ground.chain }], guard := none }) rfl (fun Kc hK => ?_) AllReadyH.nil
      have hl3 := HE2.out.len
      refine step_append_any _ rfl (.tmp 21) (.tmp 26) 52 9 rfl 5 (.int .u8 0) 1 Tryz.underlying52 info5 rfl (.slice vo3 n3 vc3) n3 (bv (b2 ++ if k = 0 then [] else [44])) rfl HE2.out.own _ (QB.nm g ++ [58]).length (bv (QB.nm g ++ [58])) rfl (by have h := Src.ofString (w := v2') (P := Tryz.prog) Tryz.underlying9 ⟨(QB.nm g ++ [58]).toArray⟩; rw [ba_len, byteCells_bv] at h; exact h) (by have h3 := hml2.out.1; have h4 := HBV.out.len; simp only [List.length_append] at hl3 h3 ⊢; omega) (by have h3 := hml2.out.1; have h4 := HBV.out.len; simp only [List.length_append] at hl3 h3 ⊢; omega) ?_
      intro v' w1 hown hgrow hblk
      obtain ⟨vo5, vc5, rfl⟩ := own_formN hown
      have HE5 := hidM (HE2.out.app (us := QB.nm g ++ [58]) rfl hown hgrow hblk)
      obtain ⟨n5, hn5⟩ : ∃ n5, n3 + (QB.nm g ++ [58]).length = n5 := ⟨_, rfl⟩
      rw [hn5] at HE5 ⊢
      have HN5 := hidM hn5
      clear hn5
      refine hK.out _ _ (keepG7 HE5.out.fr hN.out.2 HC.out.2.2.2.2) (fun hHeld => ?_)
      clear hK Kc hown hgrow hblk hl3
      (try simp only [Act.put]); (try simp only [List.setIfInBounds_toArray]); (try simp only [List.set_cons_succ]); (try simp only [List.set_cons_zero])
      refine wpAnyH_take (i := 9) (oi := { dst := some 0, op := Op.assign (Operand.tmp 27), type := 52, pos := "print.go:104", after := #[{ on := 8, ground := Ground.data }, { on := 8, ground := Ground.chain }, { on := 0, ground := Ground.phase }, { on := 1, ground := Ground.phase }, { on := 2, ground := Ground.phase }, { on := 3, ground := Ground.phase }, { on := 4, ground := Ground.phase }, { on := 5, ground := Ground.phase }, { on := 6, ground := Ground.phase }, { on := 7, ground := Ground.phase }, { on := 8, ground := Ground.phase }], guard := none }) (v := ?v9u7) rfl (by kernel_rfl) (by kernel_rfl) (by kernel_rfl) (fun _ _ _ h => h) (Or.inl ⟨by rfl, ?y9u7⟩) (by assumption) ?r9u7
      case y9u7 => (intro w hSw; obtain ⟨f0, f1, f2, f3, f4, f5, f6⟩ := hSw; go_simp; (try with_reducible rfl))
      (try simp only [Act.put]); (try simp only [List.setIfInBounds_toArray]); (try simp only [List.set_cons_succ]); (try simp only [List.set_cons_zero])
      refine wpAnyH_done (by kernel_rfl) ?_ _
      clear hHeld
      have HC5 : Hid (w1.drew.cell? ⟨wr.heap.size, 0, none⟩ = some (.bool v.nul) ∧ w1.drew.cell? ⟨wr.heap.size, 1, none⟩ = some (.int .i64 v.num) ∧ w1.drew.cell? ⟨wr.heap.size, 2, none⟩ = some (.string v.text) ∧ w1.drew.cell? ⟨wr.heap.size, 3, none⟩ = some (.slice ao' v.list.length ca') ∧ w1.drew.cell? ⟨fb, fo + k * 7, none⟩ = some (.string g.name) ∧ w1.drew.cell? ⟨fb, fo + k * 7 + 1, none⟩ = some (.bool g.nul) ∧ w1.drew.cell? ⟨fb, fo + k * 7 + 2, none⟩ = some (.int .i64 g.kind) ∧ w1.drew.cell? ⟨fb, fo + k * 7 + 3, none⟩ = some (.int .i64 g.width) ∧ w1.drew.cell? ⟨fb, fo + k * 7 + 4, none⟩ = some (.int .i64 g.id) ∧ w1.drew.cell? ⟨fb, fo + k * 7 + 5, none⟩ = some (.int .i64 g.index) ∧ w1.drew.cell? ⟨fb, fo + k * 7 + 6, none⟩ = some (.slice go g.kids.length gc)) := keepG11 HE5.out.fr hN.out.1 hN.out.2 HC.out
      have hlen5 : Hid (n5 + (T g v).length < 100000000000) := by
        have h1 := HE.out.len
        have h2 := HBV.out.len
        have h3 := hml2.out.1
        have h4 := HN5.out
        simp only [List.length_append] at h1 h3 h4
        show _ < _
        omega
      have HE6 := hidM (HE5.out.gr' gr_drew)
      clear HE HE2 HBV HE5
      go_wp2_with fail
      go_region_held3 (fun w' => w'.cell? ⟨wr.heap.size, 0, none⟩ = some (.bool v.nul) ∧ w'.cell? ⟨wr.heap.size, 1, none⟩ = some (.int .i64 v.num) ∧ w'.cell? ⟨wr.heap.size, 2, none⟩ = some (.string v.text) ∧ w'.cell? ⟨wr.heap.size, 3, none⟩ = some (.slice ao' v.list.length ca') ∧ w'.cell? ⟨fb, fo + k * 7, none⟩ = some (.string g.name) ∧ w'.cell? ⟨fb, fo + k * 7 + 1, none⟩ = some (.bool g.nul) ∧ w'.cell? ⟨fb, fo + k * 7 + 2, none⟩ = some (.int .i64 g.kind) ∧ w'.cell? ⟨fb, fo + k * 7 + 3, none⟩ = some (.int .i64 g.width) ∧ w'.cell? ⟨fb, fo + k * 7 + 4, none⟩ = some (.int .i64 g.id) ∧ w'.cell? ⟨fb, fo + k * 7 + 5, none⟩ = some (.int .i64 g.index) ∧ w'.cell? ⟨fb, fo + k * 7 + 6, none⟩ = some (.slice go g.kids.length gc)) (first | with_reducible exact HC5.out | with_reducible exact keepG11 HE7.out.fr hN.out.1 hN.out.2 HC.out) ((go_at_call 23; refine Calls.mono (HCL.out _ _ _ _ _ _ HE6.out hlen5.out) ?_; rintro e v7' ⟨vo7, vc7, n7, b7, rfl, hb7, hq7⟩; have HE7 := hidM hb7; have HQ7 := hidM hq7; clear hb7 hq7))
      have HF2 : Hid (ItI a W v7' bs (123 :: QB.joinC (ps.take (k + 1))) vo7 vc7 n7) := by
        refine ⟨b7, HE7.out.back HYW.out, ?_⟩
        rw [HN.out, ← List.cons_append, ← List.append_assoc, ← List.append_assoc]
        exact ((HQ.out.app _).app _).then HQ7.out
      have hm4 : n7 ≤ n + 1 + J := by
        have h1 := HF2.out.m HBL.out
        have h2 := HJ.out (k + 1)
        simp only [List.length_cons] at h1
        omega
      clear HQ7 HE7 HE6 HN HQ HYW hN HC HC5 HCL
      go_wp2_with fail
      go_roundw
      case rel => exact ⟨k + 1, n7, vo7, vc7, by omega, hm4, by simp, rfl, HF2⟩
      case measure => simp [intOf]; omega
    · obtain rfl : k = L := by omega
      have HT : Hid (ps.take k = ps) := by
        show _ = _
        exact List.take_of_length_le (by have h1 := HLE.out.1; have h2 := HLE.out.2.2.2; omega)
      rw [HT.out] at HK
      obtain ⟨b2, hy, hq⟩ := HK.out
      have HY := hidM hy
      have HQ := hidM hq
      clear hy hq HK
      go_wp2_with (at_builtin; refine Hid.out ?_)
      unfold Hid
      refine wpList_append_any _ rfl (.tmp 36) (.tmp 37) 52 52 rfl 5 (.int .u8 0) 1 Tryz.underlying52 info5 rfl _ m (bv b2) rfl (HY.out.gr' (gr_alloc wr _)).own _ 1 [.int .u8 125] rfl (src_u8 wr [.int .u8 125] 1 rfl (by simp)) (by omega) (by omega) ?_
      intro v' w2 hown hgrow hblk
      obtain ⟨vo5, vc5, rfl⟩ := own_formN hown
      have HN := hidM ((HY.out.gr' (gr_alloc wr _)).app (us := [125]) rfl hown hgrow hblk)
      clear hown hgrow hblk HY
      go_wp2_with fail
      go_ret
      exact ⟨_, _, _, _, rfl, HN.out.back HFr.out, HQ.out.app [125]⟩
/-! ### appendChoice 49 -/
theorem src_str (w : World) (s : ByteArray) : Src Tryz.prog 1 9 (.string s) s.data.toList.length (bv s.data.toList) w := by
  have h := Src.ofString (w := w) (P := Tryz.prog) Tryz.underlying9 s
  have e : byteCells s = bv s.data.toList := rfl
  rw [e] at h
  have e2 : s.size = s.data.toList.length := by simp
  rw [e2] at h
  exact h
theorem choice49 (a : World) (g : FT) (go : Option Addr) (gc : Nat) (v : VT) (ao : Option Addr) (ca : Nat) (T : List UInt8) (hcl : PrC a g go gc v ao ca T) (hnm : g.name.size ≤ 64) (u W : World) (bo : Option Addr) (bc n : Nat) (bs : List UInt8) (hB : Byts (a, u) W bo bc n bs) (hn : n + (QB.nm g ++ 40 :: (T ++ [41])).length < 100000000000) :
    Calls Tryz.prog 49 #[.slice bo n bc, .agg #[.string g.name, .bool g.nul, .int .i64 g.kind, .int .i64 g.width, .int .i64 g.id, .int .i64 g.index, .slice go g.kids.length gc], .agg #[.bool v.nul, .int .i64 v.num, .string v.text, .slice ao v.list.length ca]] W (PrA (a, u) bs (QB.nm g ++ 40 :: (T ++ [41]))) := by
  simp only [List.length_cons, List.length_append, List.length_nil] at hn
  obtain ⟨ln, hln⟩ : ∃ ln, ln = (QB.nm g).length := ⟨_, rfl⟩
  rw [← hln] at hn
  obtain ⟨lt, hlt⟩ : ∃ lt, lt = T.length := ⟨_, rfl⟩
  rw [← hlt] at hn
  have HLN := hidM (And.intro hln hlt)
  have HCL := hidM hcl
  have HX : Hid ((W.alloc (.cells #[.string g.name, .bool g.nul, .int .i64 g.kind, .int .i64 g.width, .int .i64 g.id, .int .i64 g.index, .slice go g.kids.length gc] 26)).heap[W.heap.size]? = some (.cells #[.string g.name, .bool g.nul, .int .i64 g.kind, .int .i64 g.width, .int .i64 g.id, .int .i64 g.index, .slice go g.kids.length gc] 26) ∧ ((W.alloc (.cells #[.string g.name, .bool g.nul, .int .i64 g.kind, .int .i64 g.width, .int .i64 g.id, .int .i64 g.index, .slice go g.kids.length gc] 26)).alloc (.cells #[.bool v.nul, .int .i64 v.num, .string v.text, .slice ao v.list.length ca] 29)).heap[W.heap.size + 1]? = some (.cells #[.bool v.nul, .int .i64 v.num, .string v.text, .slice ao v.list.length ca] 29)) := by
    refine ⟨heap_alloc_new W _, ?_⟩
    have := heap_alloc_new (W.alloc (.cells #[.string g.name, .bool g.nul, .int .i64 g.kind, .int .i64 g.width, .int .i64 g.id, .int .i64 g.index, .slice go g.kids.length gc] 26)) (.cells #[.bool v.nul, .int .i64 v.num, .string v.text, .slice ao v.list.length ca] 29)
    rw [show (W.alloc (.cells #[.string g.name, .bool g.nul, .int .i64 g.kind, .int .i64 g.width, .int .i64 g.id, .int .i64 g.index, .slice go g.kids.length gc] 26)).heap.size = W.heap.size + 1 by simp] at this
    exact this
  have hG2 : Gr W ((W.alloc (.cells #[.string g.name, .bool g.nul, .int .i64 g.kind, .int .i64 g.width, .int .i64 g.id, .int .i64 g.index, .slice go g.kids.length gc] 26)).alloc (.cells #[.bool v.nul, .int .i64 v.num, .string v.text, .slice ao v.list.length ca] 29)) := (gr_alloc W _).trans (gr_alloc _ _) (fun _ _ h => h)
  have HB2 := hidM (hB.gr' hG2).here
  have HF2 := hidM (hB.gr' hG2).fr
  have hsz : ((W.alloc (.cells #[.string g.name, .bool g.nul, .int .i64 g.kind, .int .i64 g.width, .int .i64 g.id, .int .i64 g.index, .slice go g.kids.length gc] 26)).alloc (.cells #[.bool v.nul, .int .i64 v.num, .string v.text, .slice ao v.list.length ca] 29)).heap.size = W.heap.size + 1 + 1 := by simp
  have h26 : ((W.alloc (.cells #[.string g.name, .bool g.nul, .int .i64 g.kind, .int .i64 g.width, .int .i64 g.id, .int .i64 g.index, .slice go g.kids.length gc] 26)).alloc (.cells #[.bool v.nul, .int .i64 v.num, .string v.text, .slice ao v.list.length ca] 29)).heap[W.heap.size]? = some (.cells #[.string g.name, .bool g.nul, .int .i64 g.kind, .int .i64 g.width, .int .i64 g.id, .int .i64 g.index, .slice go g.kids.length gc] 26) := ((gr_alloc _ _).block _ (by simp) id).trans HX.out.1
  have h29 := HX.out.2
  have H26 := hidM h26
  have H29 := hidM h29
  clear hB hG2 hcl hln hlt HX h26 h29
  go_enter Tryz.func49, Tryz.ntmps49
  go_wp2_with (at_builtin; refine Hid.out ?_)
  unfold Hid
  obtain ⟨W2, hW2⟩ : ∃ W2, (W.alloc (.cells #[.string g.name, .bool g.nul, .int .i64 g.kind, .int .i64 g.width, .int .i64 g.id, .int .i64 g.index, .slice go g.kids.length gc] 26)).alloc (.cells #[.bool v.nul, .int .i64 v.num, .string v.text, .slice ao v.list.length ca] 29) = W2 := ⟨_, rfl⟩
  rw [hW2] at HB2 HF2 H26 H29 hsz ⊢
  refine wpList_append_any _ rfl (.tmp 7) (.tmp 9) 52 9 rfl 5 (.int .u8 0) 1 Tryz.underlying52 info5 rfl _ n (bv bs) rfl HB2.out.own _ (QB.nm g).length (bv (QB.nm g)) rfl (src_str W2 g.name) (by have := HLN.out.1; omega) (by have := HLN.out.1; omega) ?_
  intro v' w1 hown hgrow hblk
  obtain ⟨vo1, vc1, rfl⟩ := own_formN hown
  have H1 := hidM (HB2.out.app (us := QB.nm g) rfl hown hgrow hblk)
  obtain ⟨n1, hn1⟩ : ∃ n1, n + (QB.nm g).length = n1 := ⟨_, rfl⟩
  rw [hn1] at H1 ⊢
  rw [← HLN.out.1] at hn1
  clear hown hgrow hblk HB2 hW2
  go_wp2_with (at_builtin; refine Hid.out ?_)
  unfold Hid
  refine wpList_append_any _ rfl (.tmp 10) (.tmp 11) 52 52 rfl 5 (.int .u8 0) 1 Tryz.underlying52 info5 rfl _ n1 (bv (bs ++ QB.nm g)) rfl (H1.out.gr' (gr_alloc w1 _)).own _ 1 [.int .u8 40] rfl (src_u8 w1 [.int .u8 40] 1 rfl (by simp)) (by omega) (by omega) ?_
  intro v' w2 hown hgrow hblk
  obtain ⟨vo2, vc2, rfl⟩ := own_formN hown
  have H2 := hidM ((H1.out.gr' (gr_alloc w1 _)).app (us := [40]) rfl hown hgrow hblk)
  clear hown hgrow hblk H1
  have k7 := H2.out.fr.cell (o := 0) (v := .bool true) H26.out (by decide)
  have k4 := H2.out.fr.cell (o := 0) (v := .bool true) H29.out (by decide)
  have e7 : w2.cell? ⟨W.heap.size, 0, none⟩ = some (.string g.name) ∧ w2.cell? ⟨W.heap.size, 1, none⟩ = some (.bool g.nul) ∧ w2.cell? ⟨W.heap.size, 2, none⟩ = some (.int .i64 g.kind) ∧ w2.cell? ⟨W.heap.size, 3, none⟩ = some (.int .i64 g.width) ∧ w2.cell? ⟨W.heap.size, 4, none⟩ = some (.int .i64 g.id) ∧ w2.cell? ⟨W.heap.size, 5, none⟩ = some (.int .i64 g.index) ∧ w2.cell? ⟨W.heap.size, 6, none⟩ = some (.slice go g.kids.length gc) := by simp [World.cell?, k7]
  have e4 : w2.cell? ⟨W.heap.size + 1, 0, none⟩ = some (.bool v.nul) ∧ w2.cell? ⟨W.heap.size + 1, 1, none⟩ = some (.int .i64 v.num) ∧ w2.cell? ⟨W.heap.size + 1, 2, none⟩ = some (.string v.text) ∧ w2.cell? ⟨W.heap.size + 1, 3, none⟩ = some (.slice ao v.list.length ca) := by simp [World.cell?, k4]
  obtain ⟨p0, p1, p2, p3, p4, p5, p6⟩ := e7
  obtain ⟨q0, q1, q2, q3⟩ := e4
  clear k7 k4
  go_wp2_with (first | (go_at_call 23; refine Calls.mono (HCL.out _ _ _ _ _ _ H2.out (by have := HLN.out.2; omega)) ?_; rintro e w3 ⟨vo3, vc3, n3, b3, rfl, hb3, hq3⟩; have H3 := hidM hb3; have HQ3 := hidM hq3; clear hb3 hq3) | (at_builtin; refine Hid.out ?_))
  unfold Hid
  have hl3 : n3 < 100000000000 := by
    have h1 := H3.out.len
    have h2 := H2.out.len
    have h3 := HQ3.out.1
    have h4 := HLN.out.2
    simp only [List.length_append, List.length_cons, List.length_nil] at h2 h3
    omega
  refine wpList_append_any _ rfl (.tmp 16) (.tmp 17) 52 52 rfl 5 (.int .u8 0) 1 Tryz.underlying52 info5 rfl _ n3 (bv b3) rfl (H3.out.gr' (gr_alloc w3 _)).own _ 1 [.int .u8 41] rfl (src_u8 w3 [.int .u8 41] 1 rfl (by simp)) (by omega) (by omega) ?_
  intro v' w4 hown hgrow hblk
  obtain ⟨vo4, vc4, rfl⟩ := own_formN hown
  have H4 := hidM ((H3.out.gr' (gr_alloc w3 _)).app (us := [41]) rfl hown hgrow hblk)
  clear hown hgrow hblk H3
  go_wp2_with fail
  go_ret
  refine ⟨_, _, _, _, rfl, H4.out.back HF2.out, ?_⟩
  have h := (((PrQ.all bs (QB.nm g)).app [40]).then HQ3.out).app [41]
  simpa using h
end Go.Proofs.YtfoifmacobldbaaGreatDoor.Kit
