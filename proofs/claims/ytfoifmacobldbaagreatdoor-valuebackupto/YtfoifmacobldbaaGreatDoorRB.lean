import Derived.Test.YtfoifmacobldbaaGreatDoorTA
import Derived.Test.YtfoifmacobldbaaGreatDoorVN
import Derived.Deep.RegionHeld3
set_option maxRecDepth 100000
set_option maxHeartbeats 4000000
namespace Go.Proofs.YtfoifmacobldbaaGreatDoor.Kit
open Go.RowKit Go.Shelf Go.Deep
set_option linter.unusedVariables false
set_option linter.unusedSimpArgs false
attribute [local go_sem] run_store_func
/-! ### appendItems 50 -/
theorem joinC_snoc : ∀ (l : List (List UInt8)) (x : List UInt8), QB.joinC (l ++ [x]) = QB.joinC l ++ ((if l.length = 0 then [] else [44]) ++ x)
  | [], x => by simp [QB.joinC]
  | [a], x => by simp [QB.joinC]
  | a :: b :: r, x => by
    have ih := joinC_snoc (b :: r) x
    show a ++ 44 :: QB.joinC (b :: r ++ [x]) = a ++ 44 :: QB.joinC (b :: r) ++ _
    rw [ih]
    simp
theorem joinC_next {T : VT → List UInt8} {l : List VT} {k : Nat} (h : k < l.length) : QB.joinC ((l.take (k + 1)).map T) = QB.joinC ((l.take k).map T) ++ ((if k = 0 then [] else [44]) ++ T l[k]) := by
  rw [List.take_succ_eq_append_getElem h, List.map_append]
  show QB.joinC (_ ++ [T l[k]]) = _
  rw [joinC_snoc]
  simp [Nat.min_eq_left (Nat.le_of_lt h)]
theorem joinC_le (l : List (List UInt8)) (k : Nat) : (QB.joinC (l.take k)).length ≤ (QB.joinC l).length := by
  induction hd : l.length - k generalizing k with
  | zero => rw [List.take_of_length_le (by omega)]; exact Nat.le_refl _
  | succ m ih =>
    have h1 := ih (k + 1) (by omega)
    rw [List.take_succ_eq_append_getElem (by omega), joinC_snoc] at h1
    simp only [List.length_append] at h1
    omega
theorem keepF11 {a V v1 : World} (h : Fr a V v1) {b kb : Nat} {y0 y1 y2 y3 c0 c1 c2 c3 c4 c5 c6 : Value} (hb : ¬ IsB a V b) (hk : ¬ IsB a V kb)
    (hc : V.cell? ⟨b, 0, none⟩ = some y0 ∧ V.cell? ⟨b, 1, none⟩ = some y1 ∧ V.cell? ⟨b, 2, none⟩ = some y2 ∧ V.cell? ⟨b, 3, none⟩ = some y3 ∧ V.cell? ⟨kb, 0, none⟩ = some c0 ∧ V.cell? ⟨kb, 1, none⟩ = some c1 ∧ V.cell? ⟨kb, 2, none⟩ = some c2 ∧ V.cell? ⟨kb, 3, none⟩ = some c3 ∧ V.cell? ⟨kb, 4, none⟩ = some c4 ∧ V.cell? ⟨kb, 5, none⟩ = some c5 ∧ V.cell? ⟨kb, 6, none⟩ = some c6) :
    v1.cell? ⟨b, 0, none⟩ = some y0 ∧ v1.cell? ⟨b, 1, none⟩ = some y1 ∧ v1.cell? ⟨b, 2, none⟩ = some y2 ∧ v1.cell? ⟨b, 3, none⟩ = some y3 ∧ v1.cell? ⟨kb, 0, none⟩ = some c0 ∧ v1.cell? ⟨kb, 1, none⟩ = some c1 ∧ v1.cell? ⟨kb, 2, none⟩ = some c2 ∧ v1.cell? ⟨kb, 3, none⟩ = some c3 ∧ v1.cell? ⟨kb, 4, none⟩ = some c4 ∧ v1.cell? ⟨kb, 5, none⟩ = some c5 ∧ v1.cell? ⟨kb, 6, none⟩ = some c6 :=
  ⟨h.cell' hc.1 hb, h.cell' hc.2.1 hb, h.cell' hc.2.2.1 hb, h.cell' hc.2.2.2.1 hb, h.cell' hc.2.2.2.2.1 hk, h.cell' hc.2.2.2.2.2.1 hk, h.cell' hc.2.2.2.2.2.2.1 hk, h.cell' hc.2.2.2.2.2.2.2.1 hk, h.cell' hc.2.2.2.2.2.2.2.2.1 hk, h.cell' hc.2.2.2.2.2.2.2.2.2.1 hk, h.cell' hc.2.2.2.2.2.2.2.2.2.2 hk⟩
/-- where the text stands -/
def ItI (a W1 wr : World) (bs P : List UInt8) (vo : Option Addr) (vc m : Nat) : Prop := ∃ b2, Byts (a, W1) wr vo vc m b2 ∧ PrQ bs P b2
theorem ItI.m {a W1 wr : World} {bs P : List UInt8} {vo : Option Addr} {vc m n : Nat} (h : ItI a W1 wr bs P vo vc m) (hn : bs.length = n) : m ≤ n + P.length := by
  obtain ⟨b2, h1, h2⟩ := h
  have := h1.len
  have := h2.1
  omega
theorem items50 (S : Nat → Prop) (d : Nat) (a : World) (g : FT) (go : Option Addr) (gc : Nat) (list : List VT) (vo : Option Addr) (vc : Nat) (T : VT → List UInt8) (hS : ∀ b, S b → b < a.heap.size) (hv : VRow S a (d + 1) vo list)
    (h23 : ∀ v ao ca, v ∈ list → VOk v → VRow S a d ao v.list → PrC a g go gc v ao ca (T v)) (u W : World) (bo : Option Addr) (bc n : Nat) (bs : List UInt8) (hB : Byts (a, u) W bo bc n bs) (hn : n + (91 :: (QB.joinC (list.map T) ++ [93])).length < 100000000000) :
    Calls Tryz.prog 50 #[.slice bo n bc, .agg #[.string g.name, .bool g.nul, .int .i64 g.kind, .int .i64 g.width, .int .i64 g.id, .int .i64 g.index, .slice go g.kids.length gc], .slice vo list.length vc] W (PrA (a, u) bs (91 :: (QB.joinC (list.map T) ++ [93]))) := by
  obtain ⟨L, hL⟩ : ∃ L, L = list.length := ⟨_, rfl⟩
  rw [← hL]
  have hLb : L ≤ 1000000000000 := by rw [hL]; exact hv.len
  have hbl := hB.len
  have hjl : ∀ k, (QB.joinC ((list.take k).map T)).length ≤ (QB.joinC (list.map T)).length := fun k => by rw [List.map_take]; exact joinC_le _ _
  simp only [List.length_cons, List.length_append, List.length_nil] at hn
  have HJ := hidM hjl
  have HBL := hidM hbl
  have HLE := hidM hL
  have HV := hidM hv
  have HS := hidM hS
  have H23 := hidM h23
  have HFr := hidM hB.fr
  have hb7 : Hid ((W.alloc (.cells #[.string g.name, .bool g.nul, .int .i64 g.kind, .int .i64 g.width, .int .i64 g.id, .int .i64 g.index, .slice go g.kids.length gc] 26)).heap[W.heap.size]? = some (.cells #[.string g.name, .bool g.nul, .int .i64 g.kind, .int .i64 g.width, .int .i64 g.id, .int .i64 g.index, .slice go g.kids.length gc] 26)) := heap_alloc_new W _
  have HB1 : Hid (Byts (a, W.alloc (.cells #[.string g.name, .bool g.nul, .int .i64 g.kind, .int .i64 g.width, .int .i64 g.id, .int .i64 g.index, .slice go g.kids.length gc] 26)) (W.alloc (.cells #[.string g.name, .bool g.nul, .int .i64 g.kind, .int .i64 g.width, .int .i64 g.id, .int .i64 g.index, .slice go g.kids.length gc] 26)) bo bc n bs) := (hB.gr' (gr_alloc W _)).here
  have HF1 : Hid (Fr a u (W.alloc (.cells #[.string g.name, .bool g.nul, .int .i64 g.kind, .int .i64 g.width, .int .i64 g.id, .int .i64 g.index, .slice go g.kids.length gc] 26))) := (hB.gr' (gr_alloc W _)).fr
  have hnn : n < 100000000000 := by omega
  obtain ⟨J, hJ⟩ : ∃ J, J = (QB.joinC (list.map T)).length := ⟨_, rfl⟩
  rw [← hJ] at hn HJ
  have HJE := hidM hJ
  clear hB hv hS h23 hL hjl hbl hJ
  go_enter Tryz.func50, Tryz.ntmps50
  go_wp2_with (at_builtin; refine Hid.out ?_)
  unfold Hid
  obtain ⟨W1, hW1⟩ : ∃ W1, W.alloc (.cells #[.string g.name, .bool g.nul, .int .i64 g.kind, .int .i64 g.width, .int .i64 g.id, .int .i64 g.index, .slice go g.kids.length gc] 26) = W1 := ⟨_, rfl⟩
  have hsz : W1.heap.size = W.heap.size + 1 := by rw [← hW1]; simp
  rw [hW1] at hb7 HB1 HF1 ⊢
  refine wpList_append_any _ rfl (.tmp 9) (.tmp 10) 52 52 rfl 5 (.int .u8 0) 1 Tryz.underlying52 info5 rfl _ n (bv bs) rfl (HB1.out.gr' (gr_alloc W1 _)).own _ 1 [.int .u8 91] rfl (by have h := src_u8 W1 [.int .u8 91] 1 rfl (by simp); rw [hsz] at h; exact h) (by omega) (by omega) ?_
  intro v' w1 hown hgrow hblk
  obtain ⟨vo1, vc1, rfl⟩ := own_formN hown
  have HI : Hid (ItI a W1 w1 bs (91 :: QB.joinC ((list.take 0).map T)) vo1 vc1 (n + 1)) := ⟨_, (HB1.out.gr' (gr_alloc W1 _)).app (us := [91]) rfl hown hgrow hblk, by simpa [QB.joinC] using PrQ.all bs [91]⟩
  clear hown hgrow hblk HB1 hW1 hsz
  go_wp2_with fail
  go_loopw [0, 14] (fun x p wr => ∃ (k m : Nat) (vo2 : Option Addr) (vc2 : Nat), k ≤ L ∧ m ≤ n + 1 + J ∧ p = .int .i64 (k : Int) ∧ x = .slice vo2 m vc2 ∧ Hid (ItI a W1 wr bs (91 :: QB.joinC ((list.take k).map T)) vo2 vc2 m)) (fun _ p _ => L - (intOf p).toNat)
  case atStart => exact ⟨0, n + 1, vo1, vc1, by omega, by omega, rfl, rfl, HI⟩
  case round =>
    obtain ⟨k, m, vo2, vc2, hk, hm, rfl, rfl, HK⟩ := hrel
    clear HI
    by_cases hlt : k < L
    · have hkl : k < list.length := by have := HLE.out; omega
      obtain ⟨b, o, rfl, hb, hcs⟩ := HV.out.2 (fun e => by subst e; simp at hkl)
      obtain ⟨ao', ca', hc, hle, hok, hrow⟩ := hcs k hkl
      have hcall := H23.out list[k] ao' ca' (List.getElem_mem hkl) hok hrow
      have hnx := joinC_next (T := T) hkl
      have hjk := HJ.out (k + 1)
      rw [hnx] at hjk
      obtain ⟨v, hve⟩ : ∃ v, v = list[k]'hkl := ⟨_, rfl⟩
      rw [← hve] at hcall hnx hc hjk
      obtain ⟨b2, hy, hq⟩ := HK.out
      have hcw := hc.kept (hy.gr.block b (HS.out b hb) id)
      obtain ⟨c0, c1, c2, c3⟩ := hcw
      have b7 : wr.heap[W.heap.size]? = some (.cells #[.string g.name, .bool g.nul, .int .i64 g.kind, .int .i64 g.width, .int .i64 g.id, .int .i64 g.index, .slice go g.kids.length gc] 26) := hy.fr.cell (b := W.heap.size) (o := 0) (v := .bool true) hb7.out (by decide)
      have hml := hy.len
      have hql := hq.1
      have hbl := HBL.out
      obtain ⟨V, hV⟩ : ∃ V, wr.alloc (.cells #[.bool v.nul, .int .i64 v.num, .string v.text, .slice ao' v.list.length ca'] 29) = V := ⟨_, rfl⟩
      have hgV : Gr wr V := by rw [← hV]; exact gr_alloc wr _
      have h4 : V.heap[wr.heap.size]? = some (.cells #[.bool v.nul, .int .i64 v.num, .string v.text, .slice ao' v.list.length ca'] 29) := by rw [← hV]; exact heap_alloc_new wr _
      have h7 : V.heap[W.heap.size]? = some (.cells #[.string g.name, .bool g.nul, .int .i64 g.kind, .int .i64 g.width, .int .i64 g.id, .int .i64 g.index, .slice go g.kids.length gc] 26) := (hgV.block _ (lt_of_heap b7) id).trans b7
      have HC : Hid (V.drew.cell? ⟨wr.heap.size, 0, none⟩ = some (.bool v.nul) ∧ V.drew.cell? ⟨wr.heap.size, 1, none⟩ = some (.int .i64 v.num) ∧ V.drew.cell? ⟨wr.heap.size, 2, none⟩ = some (.string v.text) ∧ V.drew.cell? ⟨wr.heap.size, 3, none⟩ = some (.slice ao' v.list.length ca') ∧ V.drew.cell? ⟨W.heap.size, 0, none⟩ = some (.string g.name) ∧ V.drew.cell? ⟨W.heap.size, 1, none⟩ = some (.bool g.nul) ∧ V.drew.cell? ⟨W.heap.size, 2, none⟩ = some (.int .i64 g.kind) ∧ V.drew.cell? ⟨W.heap.size, 3, none⟩ = some (.int .i64 g.width) ∧ V.drew.cell? ⟨W.heap.size, 4, none⟩ = some (.int .i64 g.id) ∧ V.drew.cell? ⟨W.heap.size, 5, none⟩ = some (.int .i64 g.index) ∧ V.drew.cell? ⟨W.heap.size, 6, none⟩ = some (.slice go g.kids.length gc)) := by
        have hx : V.cell? ⟨wr.heap.size, 0, none⟩ = some (.bool v.nul) ∧ V.cell? ⟨wr.heap.size, 1, none⟩ = some (.int .i64 v.num) ∧ V.cell? ⟨wr.heap.size, 2, none⟩ = some (.string v.text) ∧ V.cell? ⟨wr.heap.size, 3, none⟩ = some (.slice ao' v.list.length ca') ∧ V.cell? ⟨W.heap.size, 0, none⟩ = some (.string g.name) ∧ V.cell? ⟨W.heap.size, 1, none⟩ = some (.bool g.nul) ∧ V.cell? ⟨W.heap.size, 2, none⟩ = some (.int .i64 g.kind) ∧ V.cell? ⟨W.heap.size, 3, none⟩ = some (.int .i64 g.width) ∧ V.cell? ⟨W.heap.size, 4, none⟩ = some (.int .i64 g.id) ∧ V.cell? ⟨W.heap.size, 5, none⟩ = some (.int .i64 g.index) ∧ V.cell? ⟨W.heap.size, 6, none⟩ = some (.slice go g.kids.length gc) := by simp [World.cell?, h4, h7]
        exact hx
      have hN := hidM (And.intro (notB (a := a) (W := V.drew) h4 (by decide)) (notB (a := a) (W := V.drew) h7 (by decide)))
      have HY := hidM (hy.here.gr' (hgV.trans gr_drew (fun _ _ h => h)))
      have HYW : Hid (Fr a W1 V.drew) := ((hy.gr' hgV).gr' gr_drew).fr
      have HN := hidM hnx
      have HQ := hidM hq
      have HCL := hidM hcall
      have HBV : Hid (Byts (a, V.drew) V.drew vo2 vc2 m b2) := ((hy.gr' hgV).gr' gr_drew).here
      have hml2 : Hid (m + (if k = 0 then [] else [44] : List UInt8).length + (T v).length < 100000000000 ∧ m < 1000000000000) := by
        simp only [List.length_cons, List.length_append] at hql hjk
        constructor <;> omega
      have hltI : (k : Int) < (L : Int) := by omega
      clear hcs hc hok hrow hcall hve hle hnx hjk hy hq hml hql hbl b7 hgV h4 h7
      go_wp2_with fail
      go_region_held3 (fun w' => w'.cell? ⟨wr.heap.size, 0, none⟩ = some (.bool v.nul) ∧ w'.cell? ⟨wr.heap.size, 1, none⟩ = some (.int .i64 v.num) ∧ w'.cell? ⟨wr.heap.size, 2, none⟩ = some (.string v.text) ∧ w'.cell? ⟨wr.heap.size, 3, none⟩ = some (.slice ao' v.list.length ca') ∧ w'.cell? ⟨W.heap.size, 0, none⟩ = some (.string g.name) ∧ w'.cell? ⟨W.heap.size, 1, none⟩ = some (.bool g.nul) ∧ w'.cell? ⟨W.heap.size, 2, none⟩ = some (.int .i64 g.kind) ∧ w'.cell? ⟨W.heap.size, 3, none⟩ = some (.int .i64 g.width) ∧ w'.cell? ⟨W.heap.size, 4, none⟩ = some (.int .i64 g.id) ∧ w'.cell? ⟨W.heap.size, 5, none⟩ = some (.int .i64 g.index) ∧ w'.cell? ⟨W.heap.size, 6, none⟩ = some (.slice go g.kids.length gc)) (first | with_reducible exact HC.out | with_reducible exact keepF11 HE2.out.fr hN.out.1 hN.out.2 HC.out | with_reducible exact keepF11 HE.out.fr hN.out.1 hN.out.2 HC.out) (first | (go_at_call 83; refine Calls.mono (comma83 k (a, V.drew) V.drew _ _ _ _ HBV hml2.out.2) ?_; rintro e v1' ⟨vo3, vc3, n3, rfl, hb3⟩; have HE := hidM hb3; clear hb3) | (go_at_call 23; refine Calls.mono (HCL.out _ _ _ _ _ _ HE.out (by have h1 := HE.out.len; have h2 := HBV.out.len; have h3 := hml2.out.1; simp only [List.length_append] at h1; omega)) ?_; rintro e v2' ⟨vo4, vc4, n4, b4, rfl, hb4, hq4⟩; have HE2 := hidM hb4; have HQ4 := hidM hq4; clear hb4 hq4))
      have HF2 : Hid (ItI a W1 v2' bs (91 :: QB.joinC ((list.take (k + 1)).map T)) vo4 vc4 n4) := by
        refine ⟨b4, HE2.out.back HYW.out, ?_⟩
        rw [HN.out, ← List.cons_append, ← List.append_assoc]
        exact (HQ.out.app _).then HQ4.out
      have hm4 : n4 ≤ n + 1 + J := by
        have h1 := HF2.out.m HBL.out
        have h2 := HJ.out (k + 1)
        simp only [List.length_cons] at h1
        omega
      clear HQ4 HE2 HE HN HQ HY HYW HBV hN HC HCL
      go_wp2_with fail
      go_roundw
      case rel => exact ⟨k + 1, n4, vo4, vc4, by omega, hm4, by simp, rfl, HF2⟩
      case measure => simp [intOf]; omega
    · obtain rfl : k = L := by omega
      have HT : Hid (list.take k = list) := by
        show _ = _
        rw [HLE.out]; exact List.take_length
      rw [HT.out] at HK
      obtain ⟨b2, hy, hq⟩ := HK.out
      have HY := hidM hy
      have HQ := hidM hq
      clear hy hq HK
      go_wp2_with (at_builtin; refine Hid.out ?_)
      unfold Hid
      refine wpList_append_any _ rfl (.tmp 26) (.tmp 27) 52 52 rfl 5 (.int .u8 0) 1 Tryz.underlying52 info5 rfl _ m (bv b2) rfl (HY.out.gr' (gr_alloc wr _)).own _ 1 [.int .u8 93] rfl (src_u8 wr [.int .u8 93] 1 rfl (by simp)) (by omega) (by omega) ?_
      intro v' w2 hown hgrow hblk
      obtain ⟨vo5, vc5, rfl⟩ := own_formN hown
      have HN := hidM ((HY.out.gr' (gr_alloc wr _)).app (us := [93]) rfl hown hgrow hblk)
      clear hown hgrow hblk HY
      go_wp2_with fail
      go_ret
      exact ⟨_, _, _, _, rfl, HN.out.back HF1.out, HQ.out.app [93]⟩
end Go.Proofs.YtfoifmacobldbaaGreatDoor.Kit
