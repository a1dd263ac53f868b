import Derived.Test.YtkodgneneiledaaGreatDoorYO
import Derived.Test.YtkodgneneiledaaGreatDoorLK
import Derived.Test.YtkodgneneiledaaGreatDoorGA
import Derived.Test.YtkodgneneiledaaGreatDoorKitTwo
set_option maxRecDepth 100000
set_option maxHeartbeats 4000000
namespace Go.Proofs.YtkodgneneiledaaGreatDoor.Kit
open Go.RowKit Go.Shelf Go.Deep
set_option linter.unusedVariables false
attribute [local go_sem] run_store_func
theorem place30 (S : Nat → Prop) (d : Nat) (l : List FT) (path g : List Nat) (fo no vo po : Option Addr) (fc nn nc vc pn pc : Nat) (w : World) (hr : RowAt S w d fo l) (hS : ∀ b, S b → b < w.heap.size) (hfc : l.length ≤ fc) (hb : nP d l ≤ 1000000) (hW : Way d l path) (hpn : pn = path.length) (hp : IntsAt w po path) (hg : IntsAt w vo g) (hgl : nP d l ≤ g.length) (hpl : path.length ≤ 1000000) (hgb : g.length ≤ 1000000) :
    Calls Tryz.prog 30 #[.agg #[.slice fo l.length fc, .slice no nn nc], .slice vo g.length vc, .slice po pn pc] w (fun e w' => Gr w w' ∧ e = .returned (.int .i64 ((g.getD (plc d l path) 0 : Nat) : Int))) := by
  have hplt := plc_lt d l path hW
  have HR := hidP hr
  have HS := hidP hS
  have Hb := hidP hb
  have HW := hidP hW
  have HPn := hidP hpn
  have HG0 : Hid (Gr w (w.alloc (.cells #[.slice fo l.length fc, .slice no nn nc] 27))) := gr_alloc w _
  obtain ⟨tot, htot⟩ : ∃ t, t = plc d l path := ⟨_, rfl⟩
  rw [← htot] at hplt ⊢
  have HT := hidP htot
  have hpne : path ≠ [] := by intro e; subst e; cases d <;> exact hW
  obtain ⟨pb, poo, rfl, hpc⟩ := hp hpne
  obtain ⟨gb, goo, rfl, hgc⟩ := hg (by intro e; subst e; simp at hgl; omega)
  have HPc := hidP hpc
  have HGc := hidP hgc
  have hpb : pb < w.heap.size := cell_in (hpc 0 (by rw [List.length_pos_iff]; exact hpne))
  have hgb2 : gb < w.heap.size := cell_in (hgc 0 (by omega))
  clear hr hS hb hW htot hp hg hpc hgc
  obtain ⟨G, hG⟩ : ∃ G, G = g.length := ⟨_, rfl⟩
  rw [← hG] at hgl hgb ⊢
  have HG := hidP hG
  rw [← hpn] at hpl
  clear hG hpn
  go_enter Tryz.func30, Tryz.ntmps30
  go_wp2_with fail
  go_loopw [7, 8, 17] (fun kv lv iv wr => ∃ (i K D : Nat) (cur : List FT) (co : Option Addr) (cc : Nat), i ≤ pn ∧ K ≤ 1000000 ∧ kv = .int .i64 (K : Int) ∧ lv = .slice co cur.length cc ∧ iv = .int .i64 (i : Int) ∧ Hid (Gr w wr ∧ (i < pn → RowAt S w D co cur ∧ cur.length ≤ cc ∧ Way D cur (path.drop i) ∧ K + plc D cur (path.drop i) = tot ∧ nP D cur ≤ 1000000) ∧ (i = pn → K = tot))) (fun _ _ iv _ => pn - (intOf iv).toNat)
  case atStart => exact ⟨0, 0, d, l, fo, fc, by omega, by omega, rfl, rfl, rfl, HG0.out, fun _ => ⟨HR.out, hfc, HW.out, by rw [HT.out]; simp, Hb.out⟩, fun e => by rw [HPn.out] at e; exact absurd (List.length_eq_zero_iff.1 e.symm) hpne⟩
  case round =>
    obtain ⟨i, K, D, cur, co, cc, hi, hK, rfl, rfl, rfl, HK⟩ := hrel
    by_cases hlt : i < pn
    · have hip : i < path.length := by have := HPn.out; omega
      obtain ⟨hrow, hcc, hway, hsum, hnb⟩ := HK.out.2.1 hlt
      rw [List.drop_eq_getElem_cons hip] at hway hsum
      have hci := HPc.out i hip
      have hcW : wr.cell? ⟨pb, poo + i, none⟩ = some (.int .i64 ((path[i]'hip : Nat) : Int)) := (World.cell?_of_block (w := w) (HK.out.1.block pb hpb id)).trans hci
      obtain ⟨n, hn⟩ : ∃ n, n = path[i]'hip := ⟨_, rfl⟩
      rw [← hn] at hway hsum hcW
      obtain ⟨q, hq⟩ : ∃ q, q = path.drop (i + 1) := ⟨_, rfl⟩
      rw [← hq] at hway hsum
      obtain ⟨D1, rfl⟩ : ∃ D1, D = D1 + 1 := by
        cases D with
        | zero => exact hway.elim
        | succ D => exact ⟨D, rfl⟩
      obtain ⟨hnl, hway2⟩ := hway
      have hsum2 : K + (nP (D1 + 1) (cur.take n) + (if q = [] then 0 else 1 + plc D1 (cur[n]!).kids q)) = tot := hsum
      obtain ⟨x, o, rfl, hx, hcs⟩ := hrow.2 (fun e => by subst e; simp at hnl)
      have hcl : cur.length ≤ 1000000000000 := hrow.1
      have HQ := hidP hq
      have HW2 := hidP hway2
      have HS2 := hidP hsum2
      have HCs := hidP hcs
      have HGr := hidP HK.out.1
      have Hnb := hidP hnb
      have hxw := HS.out x hx
      have hltI : (i : Int) < (pn : Int) := by omega
      have hn0 : (0 : Int) ≤ (n : Int) := by omega
      have hnc : (n : Int) ≤ (cc : Int) := by omega
      have hnlI : (n : Int) < (cur.length : Int) := by omega
      have Hqn : Hid (q = [] ↔ i + 1 = pn) := by
        show q = [] ↔ i + 1 = pn
        rw [HQ.out, HPn.out, List.drop_eq_nil_iff]; omega
      clear hrow hway2 hsum hsum2 hcs hci HK hnb hq hn hx
      go_wp2_with fail
      clear hcW
      go_loopw [7, 26] (fun kv jv wr2 => ∃ (j K2 : Nat), j ≤ n ∧ K2 ≤ 1000000 ∧ kv = .int .i64 (K2 : Int) ∧ jv = .int .i64 (j : Int) ∧ Hid (Gr w wr2 ∧ K2 = K + nP (D1 + 1) (cur.take j))) (fun _ jv _ => n - (intOf jv).toNat)
      case atStart => exact ⟨0, K, by omega, hK, rfl, rfl, HGr.out, by rw [List.take_zero, nP_nil]; rfl⟩
      case round =>
        obtain ⟨j, K2, hj, hK2, rfl, rfl, HJ⟩ := hrel
        by_cases hjn : j < n
        · have hjl : j < cur.length := by omega
          obtain ⟨fo2, fc2, hc, hle, hr⟩ := HCs.out j hjl
          have hcW := hc.kept (HJ.out.1.block x hxw id)
          obtain ⟨t, ht⟩ : ∃ t, t = cur[j]'hjl := ⟨_, rfl⟩
          have hn1 := nP_take (d := D1 + 1) hjl
          have hn2 : nP (D1 + 1) (cur.take (j + 1)) ≤ nP (D1 + 1) (cur.take n) := by
            have := nP_le (d := D1 + 1) (l := cur.take n) (j + 1)
            rwa [List.take_take, Nat.min_eq_left (by omega)] at this
          have hn3 := nP_le (d := D1 + 1) (l := cur) n
          rw [← ht] at hcW hle hr hn1
          rw [nP_one] at hn1
          have HN := hidP hn1
          have hnb : nP D1 t.kids ≤ 1000000 := by have := Hnb.out; omega
          have gA := HJ.out.1.trans (gr_alloc wr (.cells #[.string t.name, .bool t.nul, .int .i64 t.kind, .int .i64 t.width, .int .i64 t.id, .int .i64 t.index, .slice fo2 t.kids.length fc2] 37)) fun _ _ h => h
          have hcall := count58 S D1 t fo2 fc2 _ (hr.kept fun b hb => gA.block b (HS.out b hb) id) (fun b hb => Nat.lt_of_lt_of_le (HS.out b hb) gA.size) hle hnb
          obtain ⟨M, hM⟩ : ∃ M, M = nP D1 t.kids := ⟨_, rfl⟩
          rw [← hM] at hcall hn1 hnb HN
          have HC := hidP hcall
          have HGA := hidP gA
          have hNM : K2 + (1 + M) ≤ 1000000 := by have := HJ.out.2; have := HS2.out; have := Hb.out; omega
          have HKn := hidP HJ.out.2
          obtain ⟨c0, c1, c2, c3, c4, c5, c6⟩ := hcW
          have hjI : (j : Int) < (n : Int) := by omega
          clear hc hle hr hn1 hn2 hn3 hcall gA HJ hM ht
          go_wp2_with (go_at_call 58; refine Hid.out ?_)
          unfold Hid
          refine Calls.mono HC.out ?_
          rintro e u ⟨hg, rfl⟩
          have HGu := hidP (HGA.out.trans hg fun _ _ h => h)
          clear hg HC HGA c0 c1 c2 c3 c4 c5 c6
          go_wp2_with fail
          go_roundw
          case rel => exact ⟨j + 1, K2 + (1 + M), by omega, hNM, by simp, by simp, HGu.out, by have := HKn.out; have := HN.out; omega⟩
          case measure => simp [intOf]; omega
        have hje : j = n := by omega
        subst hje
        obtain ⟨fo2, fc2, hc, hle, hr⟩ := HCs.out j (by omega)
        have hcW := hc.kept (HJ.out.1.block x hxw id)
        have hjl : j < cur.length := by omega
        obtain ⟨t, ht⟩ : ∃ t, t = cur[j]'hjl := ⟨_, rfl⟩
        have HTt : Hid (cur[j]! = t) := by show _ = t; rw [getElem!_pos cur j hjl]; exact ht.symm
        have hn1 := nP_mem (d := D1 + 1) hjl
        rw [← ht] at hcW hle hr hn1
        rw [nP_one] at hn1
        have HN := hidP hn1
        have c6 := hcW.c6
        have c6' : wr.cell? ⟨x, o + j * 7 + 2 + 4, none⟩ = some (.slice fo2 t.kids.length fc2) := c6
        have HGu := hidP HJ.out.1
        have HKe := hidP HJ.out.2
        have HKid := hidP (And.intro hr hle)
        clear hc hle hr ht hcW HJ hn1
        have hjI : ¬ (j : Int) < (j : Int) := by omega
        by_cases hq : i + 1 = pn
        · have hl1 : ¬ (i : Int) < (pn : Int) - 1 := by omega
          have HFin : Hid (K2 = tot) := by
            have := HS2.out
            rw [if_pos (Hqn.out.2 hq)] at this
            have := HKe.out
            show K2 = tot
            omega
          clear HS2 HW2
          go_wp2_with fail
          go_roundw
          case rel => exact ⟨i + 1, K2, D1, t.kids, fo2, fc2, by omega, hK2, rfl, rfl, by simp, HGu.out, fun e => by omega, fun _ => HFin.out⟩
          case measure => simp [intOf]; omega
        have hl1 : (i : Int) < (pn : Int) - 1 := by omega
        have hqn : q ≠ [] := fun e => hq (Hqn.out.1 e)
        have hsum3 := HS2.out
        rw [if_neg hqn, HTt.out] at hsum3
        have HS3 := hidP hsum3
        have hwq := HW2.out hqn
        rw [HTt.out] at hwq
        have HWq := hidP hwq
        have hK3 : K2 + 1 ≤ 1000000 := by have := HKe.out; have := Hb.out; omega
        clear HS2 HW2 hsum3 hwq hqn
        go_wp2_with fail
        go_roundw
        case rel => exact ⟨i + 1, K2 + 1, D1, t.kids, fo2, fc2, by omega, hK3, by simp, rfl, by simp, HGu.out, fun _ => ⟨HKid.out.1, HKid.out.2, by rw [← HQ.out]; exact HWq.out, by rw [← HQ.out]; have := HS3.out; have := HKe.out; omega, by have := HN.out; have := Hnb.out; omega⟩, fun e => by omega⟩
        case measure => simp [intOf]; omega
    have hie : i = pn := by omega
    subst hie
    have hKt : K = tot := HK.out.2.2 rfl
    subst hKt
    have hKg : K < g.length := by have := HG.out; omega
    have hgW : wr.cell? ⟨gb, goo + K, none⟩ = some (.int .i64 ((g[K]'hKg : Nat) : Int)) := (World.cell?_of_block (w := w) (HK.out.1.block gb hgb2 id)).trans (HGc.out K hKg)
    have HGu := hidP HK.out.1
    have HGe : Hid (g.getD K 0 = g[K]'hKg) := by show g.getD K 0 = _; rw [List.getD_eq_getElem?_getD, List.getElem?_eq_getElem hKg]; rfl
    have hKI : (K : Int) < (G : Int) := by omega
    have hKI0 : (0 : Int) ≤ (K : Int) := by omega
    clear HK
    go_wp2_with fail
    go_ret
    exact ⟨HGu.out, by rw [HGe.out]; rfl⟩
end Go.Proofs.YtkodgneneiledaaGreatDoor.Kit
namespace Go.Proofs.YtkodgneneiledaaGreatDoor.Kit
open Go.RowKit Go.Shelf Go.Deep
def nodeCells (x : LS) (wb wc : Nat) (fo : Option Addr) (fc : Nat) (ao : Option Addr) (ca : Nat) : List Value :=
  [.slice (some ⟨wb, 0, none⟩) x.path.length wc, .string x.fld.name, .bool x.fld.nul, .int .i64 x.fld.kind, .int .i64 x.fld.width, .int .i64 x.fld.id, .int .i64 x.fld.index, .slice fo x.fld.kids.length fc, .slice ao x.idx ca, .bool x.inD]
structure NodeIn (S : Nat → Prop) (W : World) (x : LS) (wb wc : Nat) (fo : Option Addr) (fc : Nat) (ao : Option Addr) (ca : Nat) : Prop where
  way : W.ownsRow 0 3 1 (.slice (some ⟨wb, 0, none⟩) x.path.length wc) x.path.length (ints x.path)
  row : ∃ D, RowAt S W (D + 1) ao x.list
  kids : ∃ D, RowAt S W D fo x.fld.kids
  le : x.list.length ≤ ca
  kle : x.fld.kids.length ≤ fc
  ix : x.idx < x.list.length
def OutAt (S : Nat → Prop) (W : World) (v : Value) (out : List LS) : Prop :=
  ∃ cs, W.ownsRow 0 97 10 v out.length cs ∧ ∀ j (h : j < out.length), ∃ wb wc fo fc ao ca, (cs.drop (j * 10)).take 10 = nodeCells out[j] wb wc fo fc ao ca ∧ NodeIn S W out[j] wb wc fo fc ao ca
theorem row_apart {W : World} {t t' s s' n n' g : Nat} {v v' : Value} {xs ys : List Value} (h : W.ownsRow 0 t s v n xs) (h' : W.ownsRow 0 t' s' v' n' ys) (ht : t ≠ t') (e : v.ownBlock = some g) : v'.ownBlock ≠ some g := by
  intro e'
  rcases h.2 with ⟨rfl, _⟩ | ⟨g1, c1, cur1, rfl, _, hg1, _⟩
  · simp [Value.ownBlock] at e
  rcases h'.2 with ⟨rfl, _⟩ | ⟨g2, c2, cur2, rfl, _, hg2, _⟩
  · simp [Value.ownBlock] at e'
  simp [Value.ownBlock] at e e'
  subst e; subst e'
  rw [hg1] at hg2
  simp at hg2
  exact ht hg2.2
theorem way_kp {W W' : World} {v u : Value} {n m : Nat} {cs xs : List Value} (hv : W.ownsRow 0 97 10 v n cs) (hu : W.ownsRow 0 3 1 u m xs) (k : Keeps W W' (fun b => v.ownBlock = some b)) : W'.ownsRow 0 3 1 u m xs :=
  row_kp hu fun g e => k.block g (own_lt hu g e) (row_apart hu hv (by decide) e)
theorem NodeIn.keeps {S : Nat → Prop} {W W' : World} {x : LS} {wb wc : Nat} {fo : Option Addr} {fc : Nat} {ao : Option Addr} {ca : Nat} (h : NodeIn S W x wb wc fo fc ao ca) {v : Value} {n : Nat} {cs : List Value} (hv : W.ownsRow 0 97 10 v n cs)
    (k : Keeps W W' (fun b => v.ownBlock = some b)) (hS : ∀ b, S b → b < W.heap.size ∧ v.ownBlock ≠ some b) : NodeIn S W' x wb wc fo fc ao ca := by
  have hk : KpOf S W W' := fun b hb => k.block b (hS b hb).1 (hS b hb).2
  obtain ⟨D, hD⟩ := h.row
  obtain ⟨E, hE⟩ := h.kids
  exact ⟨way_kp hv h.way k, ⟨D, hD.kept hk⟩, ⟨E, hE.kept hk⟩, h.le, h.kle, h.ix⟩
theorem OutAt.keeps {S : Nat → Prop} {W W' : World} {v : Value} {out : List LS} (h : OutAt S W v out) (k : Keeps W W' (fun _ => False)) (hS : ∀ b, S b → b < W.heap.size ∧ v.ownBlock ≠ some b) : OutAt S W' v out := by
  obtain ⟨cs, hown, hc⟩ := h
  refine ⟨cs, row_kp hown fun g e => k.block g (own_lt hown g e) id, fun j hj => ?_⟩
  obtain ⟨wb, wc, fo, fc, ao, ca, h1, h2⟩ := hc j hj
  exact ⟨wb, wc, fo, fc, ao, ca, h1, h2.keeps hown (k.mono fun _ _ h => h.elim) hS⟩
theorem out_snoc {S : Nat → Prop} {W W' : World} {v v' : Value} {out : List LS} {cs : List Value} (hown : W.ownsRow 0 97 10 v out.length cs)
    (hc : ∀ j (h : j < out.length), ∃ wb wc fo fc ao ca, (cs.drop (j * 10)).take 10 = nodeCells out[j] wb wc fo fc ao ca ∧ NodeIn S W out[j] wb wc fo fc ao ca)
    (k : Keeps W W' (fun b => v.ownBlock = some b)) (hS : ∀ b, S b → b < W.heap.size ∧ v.ownBlock ≠ some b) {x : LS} {wb wc : Nat} {fo : Option Addr} {fc : Nat} {ao : Option Addr} {ca : Nat}
    (hown' : W'.ownsRow 0 97 10 v' (out.length + 1) (cs ++ nodeCells x wb wc fo fc ao ca)) (hx : NodeIn S W' x wb wc fo fc ao ca) : OutAt S W' v' (out ++ [x]) := by
  have hl : cs.length = out.length * 10 := hown.1
  refine ⟨_, by rw [List.length_append]; exact hown', fun j hj => ?_⟩
  by_cases hlt : j < out.length
  · obtain ⟨wb, wc, fo, fc, ao, ca, h1, h2⟩ := hc j hlt
    refine ⟨wb, wc, fo, fc, ao, ca, ?_, ?_⟩
    · rw [List.getElem_append_left hlt, ← h1, List.drop_append_of_le_length (by omega), List.take_append_of_le_length (by simp; omega)]
    rw [List.getElem_append_left hlt]; exact h2.keeps hown k hS
  obtain rfl : j = out.length := by simp at hj; omega
  refine ⟨wb, wc, fo, fc, ao, ca, ?_, ?_⟩
  · rw [List.getElem_append_right (by omega), ← hl, List.drop_left]
    simp [nodeCells]
  rw [List.getElem_append_right (by omega)]; simpa using hx
theorem own_formN {W : World} {t s n : Nat} {v : Value} {xs : List Value} (h : W.ownsRow 0 t s v n xs) : ∃ vo vc, v = .slice vo n vc := by
  rcases h.2 with ⟨rfl, rfl⟩ | ⟨g, cap, cur, rfl, _⟩
  · exact ⟨_, _, rfl⟩
  exact ⟨_, _, rfl⟩
theorem src_node (w : World) (G : Nat) (hG : w.heap.size = G) (a b c d e f g h i j : Value) (hone : ∀ v ∈ [a, b, c, d, e, f, g, h, i, j], v.oneCell' = true) :
    Src Tryz.prog 10 93 (.slice (some ⟨G, 0, none⟩) 1 1) 1 [a, b, c, d, e, f, g, h, i, j] (w.alloc (.cells #[a, b, c, d, e, f, g, h, i, j] 97)).drew := by
  subst hG
  refine Src.ofSlice _ Tryz.underlying93 _ _ _ _ rfl ?_ (by simpa using hone)
  intro k v hk
  match k, hk with
  | 0, hk => simp at hk; subst hk; simp [Addr.add]
  | 1, hk => simp at hk; subst hk; simp [Addr.add]
  | 2, hk => simp at hk; subst hk; simp [Addr.add]
  | 3, hk => simp at hk; subst hk; simp [Addr.add]
  | 4, hk => simp at hk; subst hk; simp [Addr.add]
  | 5, hk => simp at hk; subst hk; simp [Addr.add]
  | 6, hk => simp at hk; subst hk; simp [Addr.add]
  | 7, hk => simp at hk; subst hk; simp [Addr.add]
  | 8, hk => simp at hk; subst hk; simp [Addr.add]
  | 9, hk => simp at hk; subst hk; simp [Addr.add]
  | k + 10, hk => simp at hk
noncomputable def z61 : Value := ((Tryz.prog.info? 97).bind (·.zero)).getD default
theorem c61 : z61.cells.size = 10 := by kernel_rfl
theorem info61 : (Tryz.prog.info? 97).map (fun i => (i.zero, i.size, i.bytes)) = some (some z61, 10, 136) := by kernel_rfl
theorem size3 : (Tryz.prog.info? 3).map (·.size) = some 1 := by kernel_rfl
theorem splice_front {α : Type} (L cs : List α) (h : L.length = cs.length + 1) (u : α) : (splice L 0 cs).set cs.length u = cs ++ [u] := by
  obtain ⟨t, ht⟩ : ∃ t, L.drop cs.length = [t] := by
    have : (L.drop cs.length).length = 1 := by simp; omega
    exact List.length_eq_one_iff.1 this
  simp [splice, ht]
end Go.Proofs.YtkodgneneiledaaGreatDoor.Kit
