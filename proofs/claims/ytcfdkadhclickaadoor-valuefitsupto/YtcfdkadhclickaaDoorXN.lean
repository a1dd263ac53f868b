import Derived.Test.YtcfdkadhclickaaDoorWE
import Derived.Test.YtcfdkadhclickaaDoorXM
namespace Go.Proofs.YtcfdkadhclickaaDoor.Kit
open Go.RowKit Go.Shelf Go.Deep
set_option linter.unusedVariables false
attribute [local go_sem] run_store_func

/-! ### the document's Weight 28, heavy 8 -/
def wS : Nat → VT → Int
  | 0, v => 16 + v.text.size
  | d + 1, v => 16 + v.text.size + (v.list.map (wS d)).sum
def capW (most x : Int) : Int := if x ≤ most then x else most + 1
theorem sum_nonneg {l : List Int} (h : ∀ x ∈ l, 0 ≤ x) : 0 ≤ l.sum := by
  induction l with
  | nil => simp
  | cons a l ih =>
    have h1 := h a (by simp)
    have h2 := ih fun x hx => h x (by simp [hx])
    simp only [List.sum_cons]
    omega
theorem wS_pos : ∀ (d : Nat) (v : VT), 16 ≤ wS d v
  | 0, v => by rw [wS]; omega
  | d + 1, v => by
    rw [wS]
    have := sum_nonneg (l := v.list.map (wS d)) (fun x hx => by
      obtain ⟨y, _, rfl⟩ := List.mem_map.1 hx
      have := wS_pos d y
      omega)
    omega
theorem wS_sum (d : Nat) (l : List VT) : 0 ≤ (l.map (wS d)).sum := sum_nonneg fun x hx => by
  obtain ⟨y, _, rfl⟩ := List.mem_map.1 hx
  have := wS_pos d y
  omega
theorem sum_take {l : List VT} {k : Nat} (h : k < l.length) (g : VT → Int) : ((l.take (k + 1)).map g).sum = ((l.take k).map g).sum + g l[k] := by
  rw [List.take_succ_eq_append_getElem h, List.map_append, List.sum_append]
  simp only [List.map_cons, List.map_nil, List.sum_cons, List.sum_nil]
  omega
theorem sum_split (l : List VT) (k : Nat) (g : VT → Int) : (l.map g).sum = ((l.take k).map g).sum + ((l.drop k).map g).sum := by
  have h := congrArg (fun l => (l.map g).sum) (List.take_append_drop k l)
  simp only [List.map_append, List.sum_append] at h
  exact h.symm
set_option maxRecDepth 100000 in
set_option maxHeartbeats 2000000 in
theorem weight_step (S : Nat → Prop) (d : Nat) (w : World) (hS : ∀ b, S b → b < w.heap.size) (v0 : Bool) (v1 : Int) (v2 : ByteArray) (vo : Option Addr) (vc : Nat) (list : List VT) (most : Int) (hm0 : 0 ≤ most) (hm1 : most ≤ 2147483647) (hz : v2.size ≤ 1000000000000) (hv : VRow S w (d + 1) vo list)
    (h28 : ∀ (v : VT) (ao : Option Addr) (ca : Nat) (m : Int), 0 ≤ m → m ≤ 2147483647 → v ∈ list → VOk v → VRow S w d ao v.list → IAns 28 #[.agg #[.bool v.nul, .int .i64 v.num, .string v.text, .slice ao v.list.length ca], .int .i64 m] (capW m (wS d v)) w) :
    IAns 28 #[.agg #[.bool v0, .int .i64 v1, .string v2, .slice vo list.length vc], .int .i64 most] (capW most (16 + v2.size + (list.map (wS d)).sum)) w := by
  intro W g
  obtain ⟨T, hT⟩ : ∃ T, T = 16 + v2.size + (list.map (wS d)).sum := ⟨_, rfl⟩
  rw [← hT]
  obtain ⟨R, hR⟩ : ∃ R, R = capW most T := ⟨_, rfl⟩
  rw [← hR]
  obtain ⟨L, hL⟩ : ∃ L, L = list.length := ⟨_, rfl⟩
  rw [← hL]
  have hLb : L ≤ 1000000000000 := by rw [hL]; exact hv.len
  have hTp := wS_sum d list
  have HLE := hidM hL
  have HG := hidM g
  have HS := hidM hS
  have HV := hidM hv
  have H28 := hidM h28
  obtain ⟨W1, hW1⟩ : ∃ W1, W.alloc (.cells #[.bool v0, .int .i64 v1, .string v2, .slice vo L vc] 29) = W1 := ⟨_, rfl⟩
  have gW : Gr W W1 := by rw [← hW1]; exact gr_alloc W _
  have b4 : B4 W1 W.heap.size v0 v1 v2 vo L vc := by unfold B4; rw [← hW1]; exact heap_alloc_new W _
  obtain ⟨p0, p1, p2, p3⟩ := b4.cells
  have HB4 := hidM b4
  have HW := hidM gW
  have hw0 : wrap64 (most - 16) = most - 16 := by unfold wrap64; omega
  have hw1 : wrap64 (most + 1) = most + 1 := by unfold wrap64; omega
  by_cases hc : most - 16 < (v2.size : Int)
  · have HX : Hid (R = most + 1) := by show R = _; rw [hR]; unfold capW; rw [if_neg (by omega)]
    clear hR hT hL g hS hv h28 b4 gW hTp
    go_enter Tryd.func28, Tryd.ntmps28
    go_wp2
    go_ret
    exact ⟨by rw [HX.out]; rfl, HW.out⟩
  · have hw2 : wrap64 (16 + (v2.size : Int)) = 16 + v2.size := by unfold wrap64; omega
    have HR := hidM (And.intro hR (And.intro hT (And.intro hm0 (And.intro hm1 (Int.add_le_of_le_sub_left (Int.not_lt.1 hc) : (16 + v2.size : Int) ≤ most)))))
    clear hR hT hL g hS hv h28 b4 gW hTp
    go_enter Tryd.func28, Tryd.ntmps28
    go_wp2
    clear hW1 hw0 hw2 hc
    go_loopw [5, 6] (fun a i wr => ∃ k : Nat, k ≤ L ∧ i = .int .i64 (k : Int) ∧ ∃ n, a = .int .i64 n ∧ Hid (Gr W1 wr ∧ n = capW most (16 + v2.size + ((list.take k).map (wS d)).sum))) (fun a i _ => L - (intOf i).toNat)
    case atStart => exact ⟨0, by omega, rfl, _, rfl, Keeps.refl _ _, by have := HR.out.2.2.2.2; unfold capW; rw [if_pos (by simpa using this)]; simp⟩
    case round =>
      obtain ⟨k, hk, rfl, n, rfl, HI⟩ := hrel
      clear p0 p1 p2 p3
      obtain ⟨p0, p1, p2, p3⟩ := B4.cells ((HI.out.1.block _ (lt_of_heap HB4.out) id).trans HB4.out)
      have hmono : 16 + v2.size + ((list.take k).map (wS d)).sum ≤ T := by
        have h1 := HR.out.2.1
        have h2 := sum_split list k (wS d)
        have h3 := wS_sum d (list.drop k)
        omega
      have HMO := hidM hmono
      clear hmono
      by_cases hlt : k < L
      · have hkl : k < list.length := by have := HLE.out; omega
        have hltI : (k : Int) < (L : Int) := by omega
        by_cases hn : most < n
        · have HX : Hid (R = most + 1) := by
            have h1 := HI.out.2
            have h2 := HR.out.1
            have h3 := HMO.out
            show R = _
            rw [h2]
            unfold capW at h1 ⊢
            split at h1
            · omega
            · rw [if_neg (by omega)]
          have HGr := hidM HI.out.1
          clear HI HR HMO
          go_wp2_with fail
          go_ret
          exact ⟨by rw [HX.out]; rfl, HW.out.trans HGr.out (fun _ _ h => h)⟩
        · have hP : n = 16 + v2.size + ((list.take k).map (wS d)).sum ∧ n ≤ most := by
            have h1 := HI.out.2
            unfold capW at h1
            split at h1
            · exact ⟨h1, by omega⟩
            · omega
          have hn0 : 16 ≤ n := by have := wS_sum d (list.take k); omega
          obtain ⟨b, o, rfl, hb, hcs⟩ := HV.out.2 (fun e => by subst e; simp at hkl)
          obtain ⟨ao', ca', hc, hle, hok, hrow⟩ := hcs k hkl
          have hcw := hc.kept (((HG.out.trans (HW.out.trans HI.out.1 (fun _ _ h => h)) (fun _ _ h => h)) : Gr w wr).block b (HS.out b hb) id)
          have hcall := H28.out list[k] ao' ca' (most - n) (by omega) (by omega) (List.getElem_mem hkl) hok hrow
          have hst := sum_take hkl (wS d)
          have hwp := wS_pos d list[k]
          obtain ⟨v, hve⟩ : ∃ v, v = list[k]'hkl := ⟨_, rfl⟩
          rw [← hve] at hcall hcw hst hwp
          obtain ⟨c0, c1, c2, c3⟩ := hcw
          have hw3 : wrap64 (most - n) = most - n := by unfold wrap64; omega
          obtain ⟨z, hz'⟩ : ∃ z, z = capW (most - n) (wS d v) := ⟨_, rfl⟩
          rw [← hz'] at hcall
          have hzb : 0 ≤ z ∧ z ≤ most - n + 1 := by rw [hz']; unfold capW; split <;> omega
          have hw4 : wrap64 (n + z) = n + z := by unfold wrap64; omega
          have HN : Hid (wrap64 (n + z) = capW most (16 + v2.size + ((list.take (k + 1)).map (wS d)).sum)) := by
            show _ = _
            rw [hw4, hst, hz']
            unfold capW
            have h1 := hP.1
            split
            · rw [if_pos (by omega)]; omega
            · rw [if_neg (by omega)]; omega
          have HC := hidM hcall
          have HGr := hidM HI.out.1
          have hnI : ¬ most < n := hn
          clear hcs hc hle hok hrow hcall hve HI HR HMO hP hst hwp hz' hzb hn0 hn hw4
          go_wp2_with (go_at_call 28; refine Hid.out ?_)
          unfold Hid
          refine Calls.mono (HC.out _ (HG.out.trans (HW.out.trans HGr.out (fun _ _ h => h)) (fun _ _ h => h))) ?_
          rintro e w2 ⟨rfl, hg2⟩
          have HE := hidM (HGr.out.trans hg2 (fun _ _ h => h))
          clear hg2
          go_wp2_with fail
          go_roundw
          case rel => exact ⟨k + 1, by omega, by simp, _, rfl, HE.out, HN.out⟩
          case measure => simp [intOf]; omega
      · have hkL : k = L := by omega
        have hP : n = capW most T := by
          have h1 := HI.out.2
          rw [List.take_of_length_le (by have := HLE.out; omega), ← HR.out.2.1] at h1
          exact h1
        have HX : Hid (R = n) := by show R = n; rw [HR.out.1, hP]
        have HGr := hidM HI.out.1
        by_cases hn : most < n
        · have HX2 : Hid (R = most + 1) := by
            have h1 := HX.out
            show R = _
            unfold capW at hP
            split at hP <;> omega
          clear HI HR HMO hP HX
          subst hkL
          go_wp2_with fail
          go_ret
          exact ⟨by rw [HX2.out]; rfl, HW.out.trans HGr.out (fun _ _ h => h)⟩
        · clear HI HR HMO hP
          subst hkL
          go_wp2_with fail
          go_ret
          exact ⟨by rw [HX.out]; rfl, HW.out.trans HGr.out (fun _ _ h => h)⟩
theorem weight_any (S : Nat → Prop) (w : World) (hS : ∀ b, S b → b < w.heap.size) : ∀ (d : Nat) (v : VT) (ao : Option Addr) (ca : Nat) (m : Int), 0 ≤ m → m ≤ 2147483647 → VOk v → VRow S w d ao v.list → IAns 28 #[.agg #[.bool v.nul, .int .i64 v.num, .string v.text, .slice ao v.list.length ca], .int .i64 m] (capW m (wS d v)) w
  | 0, v, ao, ca, m, h0, h1, hok, hv => by
    have hl : v.list = [] := hv
    have := weight_step S 0 w hS v.nul v.num v.text ao ca v.list m h0 h1 hok.2 (hv.more (by omega)) (fun u uo uc k _ _ hu => by rw [hl] at hu; cases hu)
    rw [show (16 + v.text.size + (v.list.map (wS 0)).sum : Int) = wS 0 v by rw [hl, wS]; simp] at this
    exact this
  | d + 1, v, ao, ca, m, h0, h1, hok, hv => by
    rw [wS]
    exact weight_step S d w hS v.nul v.num v.text ao ca v.list m h0 h1 hok.2 hv (fun u uo uc k k0 k1 _ hu hr => weight_any S w hS d u uo uc k k0 k1 hu hr)
end Go.Proofs.YtcfdkadhclickaaDoor.Kit
namespace Go.Proofs.YtcfdkadhclickaaDoor.Kit
open Go.RowKit Go.Shelf Go.Deep
set_option linter.unusedVariables false

/-! ### what fits, by the document: the shape and the weight apart -/
theorem wr_null {m : Nat} {ahead : Int} {nameR : Bool} {idx i : Int} {tabR nulR inD : Bool} {f2 : Int} {kid tk : Bool} (h : wr m ahead nameR idx i tabR nulR inD f2 kid tk = 0) : nulR = true := by
  unfold wr at h
  cases nulR with
  | true => rfl
  | false => simp at h; split at h <;> (try split at h) <;> (try split at h) <;> (try split at h) <;> (try split at h) <;> omega
theorem AllR.okN {d : Nat} {f : FT} (h : AllR (nodes (d + 1) [f] [] false)) (hd : deep d f.kids) : Kit.okN (d + 1) f := by
  refine okN_of_pre (d + 1) [f] (fun g hg => by rw [List.mem_singleton.1 hg]; exact hd) (fun x hx => ?_) f (by simp)
  rw [← nodes_pre (d + 1) [f] [] false] at hx
  obtain ⟨y, hy, rfl⟩ := List.mem_map.1 hx
  obtain ⟨i, hi, rfl⟩ := List.mem_iff_getElem.1 hy
  exact wr_null (h i hi)
def allP2 (p : FT → VT → Bool) : List FT → List VT → Bool
  | f :: fs, x :: xs => p f x && allP2 p fs xs
  | _, _ => true
/-- the shape: what fits, its weight aside -/
def docB (r : FT → VT → Bool) (f : FT) (v : VT) : Bool :=
  if v.nul = true then decide (f.nul = true ∧ v.num = 0 ∧ v.text.size = 0 ∧ v.list = [])
  else if f.kind = 12 then decide (v.num = 0 ∧ v.list = [] ∧ Lib.validD v.text.data.toList = true)
  else if f.kind = 13 then decide (v.num = 0 ∧ v.list = [])
  else if f.kind = 14 then decide (v.num = 0 ∧ v.list = [] ∧ (v.text.size : Int) = f.width)
  else if f.kind = 15 then decide (v.num = 0 ∧ v.text.size = 0 ∧ v.list.length ≤ 4096) && v.list.all (r f.kids.head!)
  else if f.kind = 16 then decide (v.num = 0 ∧ v.text.size = 0 ∧ (v.list.length : Int) = f.width ∧ v.list.length ≤ 4096) && v.list.all (r f.kids.head!)
  else if f.kind = 17 then decide (v.num = 0 ∧ v.text.size = 0 ∧ v.list.length = f.kids.length) && allP2 r f.kids v.list
  else if f.kind = 18 then decide (v.text.size = 0 ∧ 0 ≤ v.num ∧ v.num < (f.kids.length : Int) ∧ v.list.length = 1) && r (f.kids.getD v.num.toNat default) v.list.head!
  else if f.kind = 19 ∨ f.kind = 20 then r f.kids.head! v
  else decide (v.text.size = 0 ∧ v.list = [] ∧ is64 v.num ∧ numB f.kind v.num = true)
def docF : Nat → FT → VT → Bool
  | 0, _, _ => false
  | n + 1, f, v => docB (docF n) f v
/-- it takes w off, where p holds -/
def Takes (r : Int → Option Int) (w : Int) (p : Bool) : Prop := ∀ l, 0 ≤ l → r l = if w ≤ l ∧ p = true then some (l - w) else none
theorem Takes.none {r : Int → Option Int} {w : Int} {p : Bool} (h : Takes r w p) {l : Int} (hl : 0 ≤ l) (hn : ¬ (w ≤ l ∧ p = true)) : r l = none := by rw [h l hl, if_neg hn]
theorem Takes.weigh {r : VT → Int → Option Int} {v : VT} {w : Int} {p : Bool} (hw : 0 ≤ w) (h : Takes (r v) w p) : Takes (weigh r v) (16 + v.text.size + w) p := by
  intro l hl
  unfold Kit.weigh
  by_cases c : (16 + v.text.size : Int) ≤ l
  · rw [if_pos c, h _ (by omega)]
    by_cases q : p = true
    · by_cases e : w ≤ l - (16 + v.text.size)
      · rw [if_pos ⟨e, q⟩, if_pos ⟨by omega, q⟩]
        congr 1
        omega
      · rw [if_neg (fun h => e h.1), if_neg (fun h => e (by omega))]
    · rw [if_neg (fun h => q h.2), if_neg (fun h => q h.2)]
  · rw [if_neg c, if_neg (fun h => c (by omega))]
theorem takes_list {r : VT → Int → Option Int} {w : VT → Int} {p : VT → Bool} (hw : ∀ x, 0 ≤ w x) : ∀ (xs : List VT), (∀ x ∈ xs, Takes (r x) (w x) (p x)) → Takes (fitsL r xs) (xs.map w).sum (xs.all p)
  | [], _ => fun l hl => by simp [fitsL, hl]
  | x :: xs, h => fun l hl => by
    have h1 := h x (by simp) l hl
    have ih := takes_list hw xs fun y hy => h y (by simp [hy])
    have hs : 0 ≤ (xs.map w).sum := sum_nonneg fun z hz => by
      obtain ⟨y, _, rfl⟩ := List.mem_map.1 hz
      exact hw y
    have hx := hw x
    rw [fitsL, h1]
    simp only [List.map_cons, List.sum_cons, List.all_cons, Bool.and_eq_true]
    by_cases c : w x ≤ l ∧ p x = true
    · rw [if_pos c]
      show fitsL r xs (l - w x) = _
      rw [ih _ (by omega)]
      by_cases q : (xs.map w).sum ≤ l - w x ∧ xs.all p = true
      · rw [if_pos q, if_pos ⟨by omega, c.2, q.2⟩]
        congr 1
        omega
      · rw [if_neg q, if_neg (fun h => q ⟨by omega, h.2.2⟩)]
    · rw [if_neg c, if_neg (fun h => c ⟨by omega, h.2.1⟩)]
      rfl
theorem takes_parts {r : FT → VT → Int → Option Int} {w : VT → Int} {p : FT → VT → Bool} (hw : ∀ x, 0 ≤ w x) : ∀ (fs : List FT) (xs : List VT), xs.length = fs.length → (∀ f ∈ fs, ∀ x ∈ xs, Takes (r f x) (w x) (p f x)) → Takes (fitsP r fs xs) (xs.map w).sum (allP2 p fs xs)
  | [], [], _, _ => fun l hl => by simp [fitsP, allP2, hl]
  | [], _ :: _, e, _ => by simp at e
  | _ :: _, [], e, _ => by simp at e
  | f :: fs, x :: xs, e, h => fun l hl => by
    have h1 := h f (by simp) x (by simp) l hl
    have ih := takes_parts hw fs xs (by simpa using e) fun g hg y hy => h g (by simp [hg]) y (by simp [hy])
    have hs : 0 ≤ (xs.map w).sum := sum_nonneg fun z hz => by
      obtain ⟨y, _, rfl⟩ := List.mem_map.1 hz
      exact hw y
    have hx := hw x
    rw [fitsP, h1]
    simp only [List.map_cons, List.sum_cons, allP2, Bool.and_eq_true]
    by_cases c : w x ≤ l ∧ p f x = true
    · rw [if_pos c]
      show fitsP r fs xs (l - w x) = _
      rw [ih _ (by omega)]
      by_cases q : (xs.map w).sum ≤ l - w x ∧ allP2 p fs xs = true
      · rw [if_pos q, if_pos ⟨by omega, c.2, q.2⟩]
        congr 1
        omega
      · rw [if_neg q, if_neg (fun h => q ⟨by omega, h.2.2⟩)]
    · rw [if_neg c, if_neg (fun h => c ⟨by omega, h.2.1⟩)]
      rfl
/-- the weight of what lies within -/
def wIn (d : Nat) (v : VT) : Int := wS d v - (16 + v.text.size)
theorem wIn_nil {d : Nat} {v : VT} (h : v.list = []) : wIn d v = 0 := by
  unfold wIn
  cases d with
  | zero => rw [wS]; omega
  | succ d => rw [wS, h]; simp
theorem wIn_list {d : Nat} {v : VT} : wIn (d + 1) v = (v.list.map (wS d)).sum := by
  unfold wIn
  rw [wS]
  omega
theorem wIn_pos (d : Nat) (v : VT) : 0 ≤ wIn d v := by
  cases d with
  | zero => unfold wIn; rw [wS]; omega
  | succ d => rw [wIn_list]; exact wS_sum d v.list
theorem takes_leaf {P : Prop} [Decidable P] {d : Nat} {v : VT} (h : P → v.list = []) : Takes (fun l => if P then some l else none) (wIn d v) (decide P) := by
  intro l hl
  by_cases p : P
  · have := wIn_nil (d := d) (h p)
    dsimp only
    rw [if_pos p, this, if_pos ⟨hl, decide_eq_true p⟩]
    congr 1
    omega
  · dsimp only
    rw [if_neg p, if_neg (fun h => p (of_decide_eq_true h.2))]
theorem takes_guard {P : Prop} [Decidable P] {r : Int → Option Int} {w : Int} {p : Bool} (h : P → Takes r w p) : Takes (fun l => if P then r l else none) w (decide P && p) := by
  intro l hl
  by_cases c : P
  · dsimp only
    rw [if_pos c, h c l hl]
    simp [c]
  · dsimp only
    rw [if_neg c, if_neg (fun h => by simp [c] at h)]
theorem Takes.fun_eq {r r' : Int → Option Int} {w w' : Int} {p p' : Bool} (h : Takes r w p) (e : ∀ l, r' l = r l) (ew : w' = w) (ep : p' = p) : Takes r' w' p' := by
  subst ew ep
  intro l hl
  rw [e l]
  exact h l hl
/-- both together -/
theorem takes_fits : ∀ (n : Nat) (f : FT) (v : VT) (d : Nat), vdeep d v.list → Takes (fitsT n f v) (wIn d v) (docF n f v)
  | 0, f, v, d, _ => fun l hl => by simp [fitsT, docF]
  | n + 1, f, v, d, hd => by
    have ih := takes_fits n
    have item : ∀ (g : FT) (x : VT) (e : Nat), vdeep e x.list → Takes (weigh (fitsT n g) x) (wS e x) (docF n g x) := fun g x e he =>
      ((ih g x e he).weigh (wIn_pos e x)).fun_eq (fun _ => rfl) (by unfold wIn; omega) rfl
    show Takes (fitsB (fitsT n) f v) _ (docB (docF n) f v)
    by_cases hn : v.nul = true
    · exact (takes_leaf (P := f.nul = true ∧ v.num = 0 ∧ v.text.size = 0 ∧ v.list = []) (fun h => h.2.2.2)).fun_eq (fun l => by unfold fitsB; rw [if_pos hn]) rfl (by unfold docB; rw [if_pos hn])
    by_cases k12 : f.kind = 12
    · exact (takes_leaf (P := v.num = 0 ∧ v.list = [] ∧ Lib.validD v.text.data.toList = true) (fun h => h.2.1)).fun_eq (fun l => by unfold fitsB; rw [if_neg hn, if_pos k12]) rfl (by unfold docB; rw [if_neg hn, if_pos k12])
    by_cases k13 : f.kind = 13
    · exact (takes_leaf (P := v.num = 0 ∧ v.list = []) (fun h => h.2)).fun_eq (fun l => by unfold fitsB; rw [if_neg hn, if_neg k12, if_pos k13]) rfl (by unfold docB; rw [if_neg hn, if_neg k12, if_pos k13])
    by_cases k14 : f.kind = 14
    · exact (takes_leaf (P := v.num = 0 ∧ v.list = [] ∧ (v.text.size : Int) = f.width) (fun h => h.2.1)).fun_eq (fun l => by unfold fitsB; rw [if_neg hn, if_neg k12, if_neg k13, if_pos k14]) rfl (by unfold docB; rw [if_neg hn, if_neg k12, if_neg k13, if_pos k14])
    have lst : ∀ g, Takes (fitsL (weigh (fitsT n g)) v.list) (wIn d v) (v.list.all (docF n g)) := fun g => by
      cases d with
      | zero =>
        have : v.list = [] := hd
        rw [this, wIn_nil this]
        exact takes_list (w := fun _ => 0) (fun _ => Int.le_refl 0) [] (fun x hx => by cases hx)
      | succ e =>
        rw [wIn_list]
        exact takes_list (fun x => by have := wS_pos e x; omega) v.list (fun x hx => item g x e (hd x hx))
    by_cases k15 : f.kind = 15
    · exact (takes_guard (fun _ => lst f.kids.head!)).fun_eq (fun l => by unfold fitsB; rw [if_neg hn, if_neg k12, if_neg k13, if_neg k14, if_pos k15]) rfl (by unfold docB; rw [if_neg hn, if_neg k12, if_neg k13, if_neg k14, if_pos k15])
    by_cases k16 : f.kind = 16
    · exact (takes_guard (fun _ => lst f.kids.head!)).fun_eq (fun l => by unfold fitsB; rw [if_neg hn, if_neg k12, if_neg k13, if_neg k14, if_neg k15, if_pos k16]) rfl (by unfold docB; rw [if_neg hn, if_neg k12, if_neg k13, if_neg k14, if_neg k15, if_pos k16])
    by_cases k17 : f.kind = 17
    · refine (takes_guard (P := v.num = 0 ∧ v.text.size = 0 ∧ v.list.length = f.kids.length) (r := fitsP (fun g => weigh (fitsT n g)) f.kids v.list) (w := wIn d v) (p := allP2 (docF n) f.kids v.list) (fun h => ?_)).fun_eq (fun l => by unfold fitsB; rw [if_neg hn, if_neg k12, if_neg k13, if_neg k14, if_neg k15, if_neg k16, if_pos k17]) rfl (by unfold docB; rw [if_neg hn, if_neg k12, if_neg k13, if_neg k14, if_neg k15, if_neg k16, if_pos k17])
      cases d with
      | zero =>
        have e : v.list = [] := hd
        have e2 : f.kids = [] := List.eq_nil_of_length_eq_zero (by rw [← h.2.2, e]; rfl)
        rw [wIn_nil e, e, e2]
        exact takes_parts (w := fun _ => 0) (fun _ => Int.le_refl 0) [] [] rfl (fun g hg => by cases hg)
      | succ e =>
        rw [wIn_list]
        exact takes_parts (fun x => by have := wS_pos e x; omega) f.kids v.list h.2.2 (fun g _ x hx => item g x e (hd x hx))
    by_cases k18 : f.kind = 18
    · refine (takes_guard (P := v.text.size = 0 ∧ 0 ≤ v.num ∧ v.num < (f.kids.length : Int) ∧ v.list.length = 1) (r := weigh (fitsT n (f.kids.getD v.num.toNat default)) v.list.head!) (w := wIn d v) (p := docF n (f.kids.getD v.num.toNat default) v.list.head!) (fun h => ?_)).fun_eq (fun l => by unfold fitsB; rw [if_neg hn, if_neg k12, if_neg k13, if_neg k14, if_neg k15, if_neg k16, if_neg k17, if_pos k18]) rfl (by unfold docB; rw [if_neg hn, if_neg k12, if_neg k13, if_neg k14, if_neg k15, if_neg k16, if_neg k17, if_pos k18])
      obtain ⟨x, hx⟩ := List.length_eq_one_iff.1 h.2.2.2
      cases d with
      | zero =>
        have e : v.list = [] := hd
        rw [e] at hx
        cases hx
      | succ e =>
        have := item (f.kids.getD v.num.toNat default) x e (hd x (by rw [hx]; simp))
        rw [wIn_list, hx]
        show Takes (weigh (fitsT n (f.kids.getD v.num.toNat default)) x) (([x].map (wS e)).sum) (docF n (f.kids.getD v.num.toNat default) x)
        rw [show ([x].map (wS e)).sum = wS e x by simp]
        exact this
    by_cases k19 : f.kind = 19 ∨ f.kind = 20
    · exact (ih f.kids.head! v d hd).fun_eq (fun l => by unfold fitsB; rw [if_neg hn, if_neg k12, if_neg k13, if_neg k14, if_neg k15, if_neg k16, if_neg k17, if_neg k18, if_pos k19]) rfl (by unfold docB; rw [if_neg hn, if_neg k12, if_neg k13, if_neg k14, if_neg k15, if_neg k16, if_neg k17, if_neg k18, if_pos k19])
    · exact (takes_leaf (P := v.text.size = 0 ∧ v.list = [] ∧ is64 v.num ∧ numB f.kind v.num = true) (fun h => h.2.1)).fun_eq (fun l => by unfold fitsB; rw [if_neg hn, if_neg k12, if_neg k13, if_neg k14, if_neg k15, if_neg k16, if_neg k17, if_neg k18, if_neg k19]) rfl (by unfold docB; rw [if_neg hn, if_neg k12, if_neg k13, if_neg k14, if_neg k15, if_neg k16, if_neg k17, if_neg k18, if_neg k19])
/-- the program's test is the document's -/
theorem weigh_doc {n d : Nat} {f : FT} {v : VT} (hd : vdeep d v.list) {l : Int} (hl : 0 ≤ l) : (weigh (fitsT n f) v l).isSome = (decide (wS d v ≤ l) && docF n f v) := by
  have h := ((takes_fits n f v d hd).weigh (r := fitsT n f) (wIn_pos d v)) l hl
  rw [h, show (16 + v.text.size + wIn d v : Int) = wS d v by unfold wIn; omega]
  by_cases c : wS d v ≤ l
  · cases hp : docF n f v <;> simp [c]
  · simp [c]
end Go.Proofs.YtcfdkadhclickaaDoor.Kit
