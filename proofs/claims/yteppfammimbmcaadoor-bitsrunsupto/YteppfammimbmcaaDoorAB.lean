import Derived.Test.YteppfammimbmcaaDoorW
import Derived.Test.YteppfammimbmcaaDoorX
import Derived.Test.YteppfammimbmcaaDoorZ
import Derived.Test.YteppfammimbmcaaDoorAA
namespace Go.Proofs.YteppfammimbmcaaDoor.Kit
open Go.RowKit Go.Deep
set_option linter.unusedVariables false

theorem mk_small (f : Nat → Bool) (n : Nat) (h : n ≤ 100000000) : (mk f n).length ≤ 1000000000 := by rw [mk_length]; unfold need; omega
theorem err_bound {n : Nat} {fr m : Int} (h : errOf n fr m = 0) : 0 ≤ fr ∧ 0 ≤ m ∧ fr + m ≤ 8 * n := by
  unfold errOf at h
  split at h
  · omega
  · split at h
    · omega
    · omega
theorem errJ_bound {n n' : Nat} {m : Int} (h : errJ n n' m = 0) : 0 ≤ m ∧ m ≤ 8 * n := by
  unfold errJ at h
  split at h
  · omega
  · split at h
    · omega
    · omega
theorem ans_small (o : OpD) (ha : o.a.length ≤ 10000000) (hl : o.l.length ≤ 100000000) : (ans o).small := by
  have z : rep0.bytes.length ≤ 1000000000 ∧ rep0.bools.length ≤ 1000000000 ∧ rep0.nums.length ≤ 1000000000 := by simp [rep0]
  have hcut : (cutV o.a o.fr o.n).length ≤ 1000000000 := by
    unfold cutV
    by_cases h : errOf o.a.length o.fr o.n = 0
    · rw [if_pos h]; exact mk_small _ _ (by have := err_bound h; omega)
    · rw [if_neg h]; simp
  have hlist : (listV o.a o.fr o.n).length ≤ 1000000000 := by
    unfold listV
    by_cases h : errOf o.a.length o.fr o.n = 0
    · rw [if_pos h, List.length_map, List.length_range]; have := err_bound h; omega
    · rw [if_neg h]; simp
  have hjoin : ∀ op, (joinV op o.a o.b o.n).length ≤ 1000000000 := by
    intro op
    unfold joinV
    by_cases h : errJ o.a.length o.b.length o.n = 0
    · rw [if_pos h]; exact mk_small _ _ (by have := errJ_bound h; omega)
    · rw [if_neg h]; simp
  have hnot : (notV o.a o.n).length ≤ 1000000000 := by
    unfold notV
    by_cases h : errOf o.a.length 0 o.n = 0
    · rw [if_pos h]; exact mk_small _ _ (by have := err_bound h; omega)
    · rw [if_neg h]; simp
  have hruns : (numsOf (runsV o.a o.fr o.n)).length ≤ 1000000000 := by
    rw [numsOf_length]
    unfold runsV
    by_cases h : errOf o.a.length o.fr o.n = 0
    · rw [if_pos h]; have := rf_len_le (fromL o.a o.fr) o.n.toNat; have := err_bound h; omega
    · rw [if_neg h]; simp
  have hmk := mk_small (fun k => o.l.getD k false) o.l.length hl
  unfold ans Rep.small
  by_cases h1 : o.kind = 1
  · rw [if_pos h1]
    exact z
  rw [if_neg h1]
  by_cases h2 : o.kind = 2
  · rw [if_pos h2]
    exact z
  rw [if_neg h2]
  by_cases h3 : o.kind = 3
  · rw [if_pos h3]
    exact ⟨hmk, z.2⟩
  rw [if_neg h3]
  by_cases h4 : o.kind = 4
  · rw [if_pos h4]
    exact ⟨z.1, hlist, z.2.2⟩
  rw [if_neg h4]
  by_cases h5 : o.kind = 5
  · rw [if_pos h5]
    exact ⟨hcut, z.2⟩
  rw [if_neg h5]
  by_cases h6 : o.kind = 6
  · rw [if_pos h6]
    exact ⟨hjoin _, z.2⟩
  rw [if_neg h6]
  by_cases h7 : o.kind = 7
  · rw [if_pos h7]
    exact ⟨hjoin _, z.2⟩
  rw [if_neg h7]
  by_cases h8 : o.kind = 8
  · rw [if_pos h8]
    exact ⟨hjoin _, z.2⟩
  rw [if_neg h8]
  by_cases h9 : o.kind = 9
  · rw [if_pos h9]
    exact ⟨hnot, z.2⟩
  rw [if_neg h9]
  by_cases h10 : o.kind = 10
  · rw [if_pos h10]
    exact ⟨z.1, z.2.1, hruns⟩
  rw [if_neg h10]
  by_cases h11 : o.kind = 11
  · rw [if_pos h11]
    exact z
  rw [if_neg h11]
  by_cases h12 : o.kind = 12
  · rw [if_pos h12]
    exact z
  rw [if_neg h12]
  exact z

theorem ask_all (v : Value) (o : OpD) (w : World) (hT : Tab w) (hO : OpAt w v o) :
    Calls Tryd.prog 7 #[v] w fun e w' => ∃ rv, e = .returned rv ∧ RepAt w.heap.size w' rv (ans o) ∧ Keeps w w' (fun _ => False) := by
  obtain ⟨ao, bo, lo, ca, cb, cl, rfl, hA, hB, hL, hll, hk, hfr, hn, hkk⟩ := hO
  unfold ans
  by_cases h1 : o.kind = 1
  · rw [if_pos h1, h1]
    exact ask1 ao bo lo _ ca _ cb _ cl o.a o.b o.l rfl rfl o.fr o.n o.k o.on hfr hn hkk hll w hT hA hB hL
  rw [if_neg h1]
  by_cases h2 : o.kind = 2
  · rw [if_pos h2, h2]
    exact ask2 ao bo lo _ ca _ cb _ cl o.a o.b o.l rfl rfl o.fr o.n o.k o.on hfr hn hkk hll w hT hA hB hL
  rw [if_neg h2]
  by_cases h3 : o.kind = 3
  · rw [if_pos h3, h3]
    exact ask3 ao bo lo _ ca _ cb _ cl o.a o.b o.l rfl rfl o.fr o.n o.k o.on hfr hn hkk hll w hT hA hB hL
  rw [if_neg h3]
  by_cases h4 : o.kind = 4
  · rw [if_pos h4, h4]
    exact ask4 ao bo lo _ ca _ cb _ cl o.a o.b o.l rfl rfl o.fr o.n o.k o.on hfr hn hkk hll w hT hA hB hL
  rw [if_neg h4]
  by_cases h5 : o.kind = 5
  · rw [if_pos h5, h5]
    exact ask5 ao bo lo _ ca _ cb _ cl o.a o.b o.l rfl rfl o.fr o.n o.k o.on hfr hn hkk hll w hT hA hB hL
  rw [if_neg h5]
  by_cases h6 : o.kind = 6
  · rw [if_pos h6, h6]
    exact ask6 ao bo lo _ ca _ cb _ cl o.a o.b o.l rfl rfl o.fr o.n o.k o.on hfr hn hkk hll w hT hA hB hL
  rw [if_neg h6]
  by_cases h7 : o.kind = 7
  · rw [if_pos h7, h7]
    exact ask7 ao bo lo _ ca _ cb _ cl o.a o.b o.l rfl rfl o.fr o.n o.k o.on hfr hn hkk hll w hT hA hB hL
  rw [if_neg h7]
  by_cases h8 : o.kind = 8
  · rw [if_pos h8, h8]
    exact ask8 ao bo lo _ ca _ cb _ cl o.a o.b o.l rfl rfl o.fr o.n o.k o.on hfr hn hkk hll w hT hA hB hL
  rw [if_neg h8]
  by_cases h9 : o.kind = 9
  · rw [if_pos h9, h9]
    exact ask9 ao bo lo _ ca _ cb _ cl o.a o.b o.l rfl rfl o.fr o.n o.k o.on hfr hn hkk hll w hT hA hB hL
  rw [if_neg h9]
  by_cases h10 : o.kind = 10
  · rw [if_pos h10, h10]
    exact ask10 ao bo lo _ ca _ cb _ cl o.a o.fr o.n o.k o.on hfr hn w hT hA
  rw [if_neg h10]
  by_cases h11 : o.kind = 11
  · rw [if_pos h11, h11]
    exact ask11 ao bo lo _ ca _ cb _ cl o.a o.b o.l rfl rfl o.fr o.n o.k o.on hfr hn hkk hll w hT hA hB hL
  rw [if_neg h11]
  by_cases h12 : o.kind = 12
  · rw [if_pos h12, h12]
    exact ask12 ao bo lo _ ca _ cb _ cl o.a o.b o.l rfl rfl o.fr o.n o.k o.on hfr hn hkk hll w hT hA hB hL
  rw [if_neg h12]
  exact ask13 o.kind ⟨h1, h2, h3, h4, h5, h6, h7, h8, h9, h10, h11, h12⟩ ao bo lo _ ca _ cb _ cl o.a o.b o.l rfl rfl o.fr o.n o.k o.on hfr hn hkk hll w hT hA hB hL

theorem says_all (v : Value) (o : OpD) (w : World) (hT : Tab w) (hO : OpAt w v o) :
    Calls Tryd.prog 8 #[v] w fun e w' => ∃ rv, e = .returned rv ∧ RepAt w.heap.size w' rv (ans o) ∧ Keeps w w' (fun _ => False) := by
  obtain ⟨ao, bo, lo, ca, cb, cl, rfl, hA, hB, hL, hll, hk, hfr, hn, hkk⟩ := hO
  unfold ans
  by_cases h1 : o.kind = 1
  · rw [if_pos h1, h1]
    exact says1 ao bo lo _ ca _ cb _ cl o.a o.b o.l rfl rfl o.fr o.n o.k o.on hfr hn hkk hll w hT hA hB hL
  rw [if_neg h1]
  by_cases h2 : o.kind = 2
  · rw [if_pos h2, h2]
    exact says2 ao bo lo _ ca _ cb _ cl o.a o.b o.l rfl rfl o.fr o.n o.k o.on hfr hn hkk hll w hT hA hB hL
  rw [if_neg h2]
  by_cases h3 : o.kind = 3
  · rw [if_pos h3, h3]
    exact says3 ao bo lo _ ca _ cb _ cl o.a o.b o.l rfl rfl o.fr o.n o.k o.on hfr hn hkk hll w hT hA hB hL
  rw [if_neg h3]
  by_cases h4 : o.kind = 4
  · rw [if_pos h4, h4]
    exact says4 ao bo lo _ ca _ cb _ cl o.a o.b o.l rfl rfl o.fr o.n o.k o.on hfr hn hkk hll w hT hA hB hL
  rw [if_neg h4]
  by_cases h5 : o.kind = 5
  · rw [if_pos h5, h5]
    exact says5 ao bo lo _ ca _ cb _ cl o.a o.b o.l rfl rfl o.fr o.n o.k o.on hfr hn hkk hll w hT hA hB hL
  rw [if_neg h5]
  by_cases h6 : o.kind = 6
  · rw [if_pos h6, h6]
    exact says6 ao bo lo _ ca _ cb _ cl o.a o.b o.l rfl rfl o.fr o.n o.k o.on hfr hn hkk hll w hT hA hB hL
  rw [if_neg h6]
  by_cases h7 : o.kind = 7
  · rw [if_pos h7, h7]
    exact says7 ao bo lo _ ca _ cb _ cl o.a o.b o.l rfl rfl o.fr o.n o.k o.on hfr hn hkk hll w hT hA hB hL
  rw [if_neg h7]
  by_cases h8 : o.kind = 8
  · rw [if_pos h8, h8]
    exact says8 ao bo lo _ ca _ cb _ cl o.a o.b o.l rfl rfl o.fr o.n o.k o.on hfr hn hkk hll w hT hA hB hL
  rw [if_neg h8]
  by_cases h9 : o.kind = 9
  · rw [if_pos h9, h9]
    exact says9 ao bo lo _ ca _ cb _ cl o.a o.b o.l rfl rfl o.fr o.n o.k o.on hfr hn hkk hll w hT hA hB hL
  rw [if_neg h9]
  by_cases h10 : o.kind = 10
  · rw [if_pos h10, h10]
    exact says10 ao bo lo _ ca _ cb _ cl o.a o.fr o.n o.k o.on hfr hn w hA
  rw [if_neg h10]
  by_cases h11 : o.kind = 11
  · rw [if_pos h11, h11]
    exact says11 ao bo lo _ ca _ cb _ cl o.a o.b o.l rfl rfl o.fr o.n o.k o.on hfr hn hkk hll w hT hA hB hL
  rw [if_neg h11]
  by_cases h12 : o.kind = 12
  · rw [if_pos h12, h12]
    exact says12 ao bo lo _ ca _ cb _ cl o.a o.b o.l rfl rfl o.fr o.n o.k o.on hfr hn hkk hll w hT hA hB hL
  rw [if_neg h12]
  exact says13 o.kind ⟨h1, h2, h3, h4, h5, h6, h7, h8, h9, h10, h11, h12⟩ ao bo lo _ ca _ cb _ cl o.a o.b o.l rfl rfl o.fr o.n o.k o.on hfr hn hkk hll w hT hA hB hL

theorem OpAt.kept {w w' : World} {v : Value} {o : OpD} (h : OpAt w v o) (k : Keeps w w' (fun _ => False)) : OpAt w' v o := by
  obtain ⟨ao, bo, lo, ca, cb, cl, e, hA, hB, hL, r⟩ := h
  exact ⟨ao, bo, lo, ca, cb, cl, e, hA.kept k, hB.kept k, hL.kept0 k, r⟩
/-- a script in memory: eight cells a call -/
def ScriptAt (w : World) (ao : Option Addr) (ops : List OpD) : Prop :=
  0 < ops.length → ∃ b off, ao = some ⟨b, off, none⟩ ∧ ∀ i, (h : i < ops.length) → ∃ va vb vl, OpAt w (.agg #[.int .i64 ops[i].kind, va, vb, vl, .int .i64 ops[i].fr, .int .i64 ops[i].n, .int .i64 ops[i].k, .bool ops[i].on]) ops[i] ∧
    w.cell? ⟨b, off + i * 8, none⟩ = some (.int .i64 ops[i].kind) ∧ w.cell? ⟨b, off + i * 8 + 1, none⟩ = some va ∧ w.cell? ⟨b, off + i * 8 + 2, none⟩ = some vb ∧ w.cell? ⟨b, off + i * 8 + 3, none⟩ = some vl ∧
    w.cell? ⟨b, off + i * 8 + 4, none⟩ = some (.int .i64 ops[i].fr) ∧ w.cell? ⟨b, off + i * 8 + 5, none⟩ = some (.int .i64 ops[i].n) ∧ w.cell? ⟨b, off + i * 8 + 6, none⟩ = some (.int .i64 ops[i].k) ∧ w.cell? ⟨b, off + i * 8 + 7, none⟩ = some (.bool ops[i].on)
theorem RepAt.form {base : Nat} {w : World} {rv : Value} {r : Rep} (h : RepAt base w rv r) : ∃ a1 c1 a2 c2 a3 c3, rv = .agg #[.int .i64 r.err, .int .i64 r.num, .bool r.yes, .slice a1 r.bytes.length c1, .slice a2 r.bools.length c2, .slice a3 r.nums.length c3] := by
  obtain ⟨v1, v2, v3, rfl, h1, h2, h3, _⟩ := h
  obtain ⟨a1, c1, rfl⟩ := own_form h1
  obtain ⟨a2, c2, rfl⟩ := own_form h2
  obtain ⟨a3, c3, rfl⟩ := own_form h3
  exact ⟨_, _, _, _, _, _, rfl⟩

set_option maxRecDepth 100000 in
set_option maxHeartbeats 4000000 in
theorem answers_any (ao : Option Addr) (ca : Nat) (ops : List OpD) (hn : ops.length ≤ 100000000) (w : World) (hT : Tab w) (hS : ScriptAt w ao ops) :
    Calls Tryd.prog 3 #[.slice ao ops.length ca] w fun e w' => e = .returned (.bool true) ∧ Keeps w w' (fun _ => False) := by
  have HT : Hid (Tab w) := hT
  clear hT
  go_enter Tryd.func3, Tryd.ntmps3
  go_wp2
  go_loopw [3] (fun i wr => ∃ k : Nat, k ≤ ops.length ∧ i = .int .i64 k ∧ Hid (Keeps w wr (fun _ => False))) (fun i _ => ops.length - (intOf i).toNat)
  case atStart => exact ⟨0, Nat.zero_le _, rfl, Keeps.refl _ _⟩
  case round =>
    obtain ⟨k, hk, rfl, HK⟩ := hrel
    by_cases hlt : k < ops.length
    · obtain ⟨b, off, rfl, hcs⟩ := hS (by omega)
      obtain ⟨va, vb, vl, hO, e0, e1, e2, e3, e4, e5, e6, e7⟩ := hcs k hlt
      have hsm : (ans ops[k]).small := by
        obtain ⟨_, _, _, _, _, _, _, hA, _, _, hll, _⟩ := hO
        exact ans_small _ hA.len hll
      have HSM : Hid ((ans ops[k]).small) := hsm
      have HO : Hid (OpAt w (.agg #[.int .i64 ops[k].kind, va, vb, vl, .int .i64 ops[k].fr, .int .i64 ops[k].n, .int .i64 ops[k].k, .bool ops[k].on]) ops[k]) := hO
      obtain ⟨a1, a2, a3, q1, q2, q3, he, _⟩ := hO
      simp only [opV, Value.agg.injEq] at he
      simp at he
      obtain ⟨rfl, rfl, rfl⟩ := he
      have c0 := HK.out.cell' e0 id
      have c1 := HK.out.cell' e1 id
      have c2 := HK.out.cell' e2 id
      have c3 := HK.out.cell' e3 id
      have c4 := HK.out.cell' e4 id
      have c5 := HK.out.cell' e5 id
      have c6 := HK.out.cell' e6 id
      have c7 := HK.out.cell' e7 id
      clear hcs e0 e1 e2 e3 e4 e5 e6 e7 hsm hS
      generalize ops[k] = o at *
      have HTr : Hid (Tab wr) := HT.out.kept HK.out id
      have HOr : Hid (OpAt wr (.agg #[.int .i64 o.kind, .slice a1 o.a.length q1, .slice a2 o.b.length q2, .slice a3 o.l.length q3, .int .i64 o.fr, .int .i64 o.n, .int .i64 o.k, .bool o.on]) o) := HO.out.kept HK.out
      go_wp2_with fail
      go_at_call 7
      refine (ask_all _ o wr HTr.out HOr.out).mono ?_
      rintro e w1 ⟨rv, rfl, hR, hk1⟩
      obtain ⟨r1, d1, r2, d2, r3, d3, rfl⟩ := hR.form
      generalize hans : ans o = R at *
      obtain ⟨W2, hW2⟩ : ∃ W2, W2 = w1.alloc (.cells #[.int .i64 R.err, .int .i64 R.num, .bool R.yes, .slice r1 R.bytes.length d1, .slice r2 R.bools.length d2, .slice r3 R.nums.length d3] 28) := ⟨_, rfl⟩
      have hk2 : Keeps wr W2 (fun _ => False) := by rw [hW2]; exact hk1.alloc _
      have HR : Hid (RepAt wr.heap.size W2 (.agg #[.int .i64 R.err, .int .i64 R.num, .bool R.yes, .slice r1 R.bytes.length d1, .slice r2 R.bools.length d2, .slice r3 R.nums.length d3]) R) := by rw [hW2]; exact hR.kept (Keeps.none_alloc _ _)
      have HK2 : Hid (Keeps w W2 (fun _ => False)) := HK.out.trans hk2 fun _ _ h => h
      have HT2 : Hid (Tab W2) := HT.out.kept HK2.out id
      have HO2 : Hid (OpAt W2 (.agg #[.int .i64 o.kind, .slice a1 o.a.length q1, .slice a2 o.b.length q2, .slice a3 o.l.length q3, .int .i64 o.fr, .int .i64 o.n, .int .i64 o.k, .bool o.on]) o) := HO.out.kept HK2.out
      have x0 : W2.cell? ⟨w1.heap.size, 0, none⟩ = some (.int .i64 R.err) := by rw [hW2]; simp
      have x1 : W2.cell? ⟨w1.heap.size, 1, none⟩ = some (.int .i64 R.num) := by rw [hW2]; simp
      have x2 : W2.cell? ⟨w1.heap.size, 2, none⟩ = some (.bool R.yes) := by rw [hW2]; simp
      have x3 : W2.cell? ⟨w1.heap.size, 3, none⟩ = some (.slice r1 R.bytes.length d1) := by rw [hW2]; simp
      have x4 : W2.cell? ⟨w1.heap.size, 4, none⟩ = some (.slice r2 R.bools.length d2) := by rw [hW2]; simp
      have x5 : W2.cell? ⟨w1.heap.size, 5, none⟩ = some (.slice r3 R.nums.length d3) := by rw [hW2]; simp
      have b0 := fun o' => cellAlloc o' (hk1.cell' c0 id)
      have b1 := fun o' => cellAlloc o' (hk1.cell' c1 id)
      have b2 := fun o' => cellAlloc o' (hk1.cell' c2 id)
      have b3 := fun o' => cellAlloc o' (hk1.cell' c3 id)
      have b4 := fun o' => cellAlloc o' (hk1.cell' c4 id)
      have b5 := fun o' => cellAlloc o' (hk1.cell' c5 id)
      have b6 := fun o' => cellAlloc o' (hk1.cell' c6 id)
      have b7 := fun o' => cellAlloc o' (hk1.cell' c7 id)
      have HSB : Hid (True) := trivial
      clear hR hk1 hk2 c0 c1 c2 c3 c4 c5 c6 c7 HTr HOr
      go_wp2_with fail
      go_at_call 8
      rw [← hW2]
      refine (says_all _ o W2 HT2.out HO2.out).mono ?_
      rintro e w3 ⟨rv, rfl, hR3, hk3⟩
      rw [hans] at hR3
      obtain ⟨s1, f1, s2, f2, s3, f3, rfl⟩ := hR3.form
      have y0 := fun o' => cellAlloc o' (hk3.cell' x0 id)
      have y1 := fun o' => cellAlloc o' (hk3.cell' x1 id)
      have y2 := fun o' => cellAlloc o' (hk3.cell' x2 id)
      have y3 := fun o' => cellAlloc o' (hk3.cell' x3 id)
      have y4 := fun o' => cellAlloc o' (hk3.cell' x4 id)
      have y5 := fun o' => cellAlloc o' (hk3.cell' x5 id)
      have HF : Hid (∀ o', RepAt wr.heap.size (w3.alloc o') (.agg #[.int .i64 R.err, .int .i64 R.num, .bool R.yes, .slice r1 R.bytes.length d1, .slice r2 R.bools.length d2, .slice r3 R.nums.length d3]) R ∧ RepAt W2.heap.size (w3.alloc o') (.agg #[.int .i64 R.err, .int .i64 R.num, .bool R.yes, .slice s1 R.bytes.length f1, .slice s2 R.bools.length f2, .slice s3 R.nums.length f3]) R ∧ Keeps w (w3.alloc o') (fun _ => False)) :=
        fun o' => ⟨(HR.out.kept hk3).kept (Keeps.none_alloc _ _), hR3.kept (Keeps.none_alloc _ _), (HK2.out.trans hk3 fun _ _ h => h).alloc _⟩
      clear hR3 hk3 x0 x1 x2 x3 x4 x5 b0 b1 b2 b3 b4 b5 b6 b7 HR HK2 HT2 HO2 hW2 HSB HO
      generalize w1.heap.size = B1 at *
      go_wp2_with fail
      go_at_call 9
      refine (alike_all _ _ R _ _ _ HSM.out (HF.out _).1 (HF.out _).2.1).mono ?_
      rintro e w5 ⟨rfl, hk5⟩
      have HK5 : Hid (Keeps w w5 (fun _ => False)) := (HF.out _).2.2.trans hk5 fun _ _ h => h
      clear hk5 HF y0 y1 y2 y3 y4 y5
      go_wp2
      go_roundw
      case rel => exact ⟨k + 1, by omega, by go_num, HK5⟩
      case measure => simp [intOf]; omega
    · obtain rfl : k = ops.length := by omega
      have HTr : Hid (Tab wr) := HT.out.kept HK.out id
      clear hS
      go_wp2_with (go_at_call 10; refine (fixed_any _ HTr.out).mono ?_; rintro e w' ⟨rfl, hk'⟩)
      go_ret
      exact ⟨rfl, HK.out.trans hk' fun _ _ h => h⟩
end Go.Proofs.YteppfammimbmcaaDoor.Kit
