import Derived.Test.YtkodgneneiledaaGreatDoorUP
set_option maxRecDepth 100000
set_option maxHeartbeats 4000000
namespace Go.Proofs.YtkodgneneiledaaGreatDoor.Kit
open Go.RowKit Go.Shelf Go.Deep
set_option linter.unusedVariables false
attribute [local go_sem] run_store_func
theorem results_cell64 {fn : Func} {t : Tmp} {tmps : Array Value} {g : Nat} {cs : Array Value} {w : World} (h : fn.results = #[.cell t 64]) (ht : tmps.getD t undef = .pointer (some ⟨g, 0, none⟩)) (hg : w.heap[g]? = some (.cells cs 64 (0, 0))) (hi : (Tryz.prog.info? 64).map (·.size) = some cs.size) :
    (results fn tmps).run Tryz.prog w = .ok (.agg cs) w := by
  have hl := run_loadVar_row (P := Tryz.prog) w g 64 64 cs (0, 0) _ hg Tryz.underlying64 rfl hi
  unfold results
  rw [h]
  simp only [Array.mapM_eq_mapM_toList, List.mapM_cons, List.mapM_nil, ht]
  simp [asAddr, hl]
structure TK (U : World) (b a : Nat) : Prop where
  rb : U.heap[b]? = some (.cells #[.int .i64 0, .string ⟨#[]⟩, .int .i64 0, .int .i64 0, .int .i64 0] 64 (0, 0))
  tb : U.heap[b + 1]? = some (.cells #[.int .i64 3, .string ⟨#[]⟩, .int .i64 (a : Int), .int .i64 0, .int .i64 (-1)] 64 (0, 0))
theorem TK.kp {U U' : World} {b a : Nat} {S : Nat → Prop} (h : TK U b a) (k : Keeps U U' S) (hS : ∀ z, S z → z ≠ b ∧ z ≠ b + 1) : TK U' b a :=
  ⟨(k.block b (lt_of_heap h.rb) fun e => (hS b e).1 rfl).trans h.rb, (k.block (b + 1) (lt_of_heap h.tb) fun e => (hS _ e).2 rfl).trans h.tb⟩
theorem TK.app {W U w1 : World} {b a : Nat} {acc : List UInt8} {vo : Option Addr} {vc : Nat} (h : TK U b a) (hA : LAt W U 5 1 u8v acc vo vc) (k : Keeps U w1 (fun z => (Value.slice vo acc.length vc).ownBlock = some z)) : TK w1 b a :=
  h.kp k fun z e => by
    obtain ⟨cs, hb⟩ := own_blk hA.own e
    exact ⟨(fun q => by subst q; rw [h.rb] at hb; cases hb), (fun q => by subst q; rw [h.tb] at hb; cases hb)⟩
theorem tok_new (W : World) (a : Nat) : TK (((W.alloc (.cells #[.int .i64 0, .string ⟨#[]⟩, .int .i64 0, .int .i64 0, .int .i64 0] 64)).alloc (.cells #[.int .i64 3, .string ⟨#[]⟩, .int .i64 (a : Int), .int .i64 0, .int .i64 (-1)] 64)).alloc (.cells #[] 5)) W.heap.size a ∧ LAt W (((W.alloc (.cells #[.int .i64 0, .string ⟨#[]⟩, .int .i64 0, .int .i64 0, .int .i64 0] 64)).alloc (.cells #[.int .i64 3, .string ⟨#[]⟩, .int .i64 (a : Int), .int .i64 0, .int .i64 (-1)] 64)).alloc (.cells #[] 5)) 5 1 u8v [] (some ⟨W.heap.size + 1 + 1, 0, none⟩) 0 ∧ Gr W (((W.alloc (.cells #[.int .i64 0, .string ⟨#[]⟩, .int .i64 0, .int .i64 0, .int .i64 0] 64)).alloc (.cells #[.int .i64 3, .string ⟨#[]⟩, .int .i64 (a : Int), .int .i64 0, .int .i64 (-1)] 64)).alloc (.cells #[] 5)) := by
  have s1 : (W.alloc (.cells #[.int .i64 0, .string ⟨#[]⟩, .int .i64 0, .int .i64 0, .int .i64 0] 64)).heap.size = W.heap.size + 1 := by simp
  have s2 : ((W.alloc (.cells #[.int .i64 0, .string ⟨#[]⟩, .int .i64 0, .int .i64 0, .int .i64 0] 64)).alloc (.cells #[.int .i64 3, .string ⟨#[]⟩, .int .i64 (a : Int), .int .i64 0, .int .i64 (-1)] 64)).heap.size = W.heap.size + 1 + 1 := by simp
  have g1 := gr_alloc W (.cells #[.int .i64 0, .string ⟨#[]⟩, .int .i64 0, .int .i64 0, .int .i64 0] 64)
  have g2 := gr_alloc (W.alloc (.cells #[.int .i64 0, .string ⟨#[]⟩, .int .i64 0, .int .i64 0, .int .i64 0] 64)) (.cells #[.int .i64 3, .string ⟨#[]⟩, .int .i64 (a : Int), .int .i64 0, .int .i64 (-1)] 64)
  have g3 := gr_alloc ((W.alloc (.cells #[.int .i64 0, .string ⟨#[]⟩, .int .i64 0, .int .i64 0, .int .i64 0] 64)).alloc (.cells #[.int .i64 3, .string ⟨#[]⟩, .int .i64 (a : Int), .int .i64 0, .int .i64 (-1)] 64)) (.cells #[] 5)
  have c1 := heap_alloc_new W (.cells #[.int .i64 0, .string ⟨#[]⟩, .int .i64 0, .int .i64 0, .int .i64 0] 64)
  have c2 := heap_alloc_new (W.alloc (.cells #[.int .i64 0, .string ⟨#[]⟩, .int .i64 0, .int .i64 0, .int .i64 0] 64)) (.cells #[.int .i64 3, .string ⟨#[]⟩, .int .i64 (a : Int), .int .i64 0, .int .i64 (-1)] 64)
  have c3 := heap_alloc_new ((W.alloc (.cells #[.int .i64 0, .string ⟨#[]⟩, .int .i64 0, .int .i64 0, .int .i64 0] 64)).alloc (.cells #[.int .i64 3, .string ⟨#[]⟩, .int .i64 (a : Int), .int .i64 0, .int .i64 (-1)] 64)) (.cells #[] 5)
  rw [s1] at c2
  rw [s2] at c3
  have g23 := g2.trans g3 (fun _ _ h => h)
  refine ⟨⟨(g23.block _ (lt_of_heap c1) id).trans c1, (g3.block _ (lt_of_heap c2) id).trans c2⟩, ⟨⟨rfl, .inr ⟨W.heap.size + 1 + 1, 0, #[], rfl, Nat.zero_le _, c3, Nat.le_refl _, by decide, rfl, rfl⟩⟩, fun q hq => ?_⟩, g1.trans g23 (fun _ _ h => h)⟩
  have : W.heap.size + 1 + 1 = q := by simpa [Value.ownBlock] using hq
  omega
def QtQ (W : World) (a : Nat) (R : Except Nat (ByteArray × Ps)) (e : Ending) (w' : World) : Prop :=
  Gr W w' ∧ match R with
  | .ok (x, q) => e = .returned (.agg #[.int .i64 3, .string x, .int .i64 (a : Int), .int .i64 (q.1 : Int), .int .i64 (-1)])
  | .error o => e = .returned (.agg #[.int .i64 3, .string ⟨#[]⟩, .int .i64 (a : Int), .int .i64 0, .int .i64 (o : Int)])
theorem QtQ.err {W w' : World} {a o : Nat} {R : Except Nat (ByteArray × Ps)} (g : Gr W w') (h : R = .error o) : QtQ W a R (.returned (.agg #[.int .i64 3, .string ⟨#[]⟩, .int .i64 (a : Int), .int .i64 0, .int .i64 (o : Int)])) w' := ⟨g, by rw [h]⟩
theorem QtQ.ok {W w' : World} {a : Nat} {x : ByteArray} {q : Ps} {R : Except Nat (ByteArray × Ps)} (g : Gr W w') (h : R = .ok (x, q)) : QtQ W a R (.returned (.agg #[.int .i64 3, .string x, .int .i64 (a : Int), .int .i64 (q.1 : Int), .int .i64 (-1)])) w' := ⟨g, by rw [h]⟩
theorem tok_fault {U : World} {b a : Nat} {o : Nat} (h : TK U b a) : ((((((U.setCell ⟨b + 1, 4, none⟩ (.int .i64 (o : Int))).setCell ⟨b, 0, none⟩ (.int .i64 3)).setCell ⟨b, 1, none⟩ (.string ⟨#[]⟩)).setCell ⟨b, 2, none⟩ (.int .i64 (a : Int))).setCell ⟨b, 3, none⟩ (.int .i64 0)).setCell ⟨b, 4, none⟩ (.int .i64 (o : Int))).heap[b]? = some (.cells #[.int .i64 3, .string ⟨#[]⟩, .int .i64 (a : Int), .int .i64 0, .int .i64 (o : Int)] 64 (0, 0)) ∧ Keeps U ((((((U.setCell ⟨b + 1, 4, none⟩ (.int .i64 (o : Int))).setCell ⟨b, 0, none⟩ (.int .i64 3)).setCell ⟨b, 1, none⟩ (.string ⟨#[]⟩)).setCell ⟨b, 2, none⟩ (.int .i64 (a : Int))).setCell ⟨b, 3, none⟩ (.int .i64 0)).setCell ⟨b, 4, none⟩ (.int .i64 (o : Int))) (fun z => z = b ∨ z = b + 1) := by
  have h0 : (U.setCell ⟨b + 1, 4, none⟩ (.int .i64 (o : Int))).heap[b]? = some (.cells #[.int .i64 0, .string ⟨#[]⟩, .int .i64 0, .int .i64 0, .int .i64 0] 64 (0, 0)) := (set_other _ (by omega)).trans (h.rb)
  have k0 : Keeps U (U.setCell ⟨b + 1, 4, none⟩ (.int .i64 (o : Int))) (fun z => z = b ∨ z = b + 1) := (Keeps.refl U (fun z => z = b ∨ z = b + 1)).setCell (p := ⟨b + 1, 4, none⟩) (fun _ => .inr rfl) _
  exact ⟨put5_box (.int .i64 3) (.string ⟨#[]⟩) (.int .i64 (a : Int)) (.int .i64 0) (.int .i64 (o : Int)) h0, k0.trans (put5_keeps _ b (.int .i64 3) (.string ⟨#[]⟩) (.int .i64 (a : Int)) (.int .i64 0) (.int .i64 (o : Int))) fun _ _ h => .inl h⟩
theorem tok_ok {U : World} {b a : Nat} {x : ByteArray} {q : Nat} (h : TK U b a) : (((((((U.setCell ⟨b + 1, 1, none⟩ (.string x)).setCell ⟨b + 1, 3, none⟩ (.int .i64 (q : Int))).setCell ⟨b, 0, none⟩ (.int .i64 3)).setCell ⟨b, 1, none⟩ (.string x)).setCell ⟨b, 2, none⟩ (.int .i64 (a : Int))).setCell ⟨b, 3, none⟩ (.int .i64 (q : Int))).setCell ⟨b, 4, none⟩ (.int .i64 (-1))).heap[b]? = some (.cells #[.int .i64 3, .string x, .int .i64 (a : Int), .int .i64 (q : Int), .int .i64 (-1)] 64 (0, 0)) ∧ Keeps U (((((((U.setCell ⟨b + 1, 1, none⟩ (.string x)).setCell ⟨b + 1, 3, none⟩ (.int .i64 (q : Int))).setCell ⟨b, 0, none⟩ (.int .i64 3)).setCell ⟨b, 1, none⟩ (.string x)).setCell ⟨b, 2, none⟩ (.int .i64 (a : Int))).setCell ⟨b, 3, none⟩ (.int .i64 (q : Int))).setCell ⟨b, 4, none⟩ (.int .i64 (-1))) (fun z => z = b ∨ z = b + 1) := by
  have h0 : ((U.setCell ⟨b + 1, 1, none⟩ (.string x)).setCell ⟨b + 1, 3, none⟩ (.int .i64 (q : Int))).heap[b]? = some (.cells #[.int .i64 0, .string ⟨#[]⟩, .int .i64 0, .int .i64 0, .int .i64 0] 64 (0, 0)) := (set_other _ (by omega)).trans ((set_other _ (by omega)).trans (h.rb))
  have k0 : Keeps U ((U.setCell ⟨b + 1, 1, none⟩ (.string x)).setCell ⟨b + 1, 3, none⟩ (.int .i64 (q : Int))) (fun z => z = b ∨ z = b + 1) := ((Keeps.refl U (fun z => z = b ∨ z = b + 1)).setCell (p := ⟨b + 1, 1, none⟩) (fun _ => .inr rfl) _).setCell (p := ⟨b + 1, 3, none⟩) (fun _ => .inr rfl) _
  exact ⟨put5_box (.int .i64 3) (.string x) (.int .i64 (a : Int)) (.int .i64 (q : Int)) (.int .i64 (-1)) h0, k0.trans (put5_keeps _ b (.int .i64 3) (.string x) (.int .i64 (a : Int)) (.int .i64 (q : Int)) (.int .i64 (-1))) fun _ _ h => .inl h⟩
theorem esc_end {s : ByteArray} {k : Nat} (h : k + 1 = s.size) : escP s.data.toList k (k + 1, []) = .error s.size := by
  unfold escP; rw [h]; exact Pr.bind_err (next_end [])
theorem esc_sign {s : ByteArray} {k : Nat} (h : k + 1 < s.size) (hc : s[k + 1]'h = 34 ∨ s[k + 1]'h = 92) : escP s.data.toList k (k + 1, []) = .ok (s[k + 1]'h, (k + 2, [])) := by
  unfold escP; rw [Pr.bind_ok (next_ok [] h), if_pos hc]; rfl
theorem esc_bad {s : ByteArray} {k : Nat} (h : k + 1 < s.size) (hc : ¬ (s[k + 1]'h = 34 ∨ s[k + 1]'h = 92)) (hx : ¬ s[k + 1]'h = 120) : escP s.data.toList k (k + 1, []) = .error k := by
  unfold escP; rw [Pr.bind_ok (next_ok [] h), if_neg hc, if_neg hx]
theorem esc_x {s : ByteArray} {k : Nat} (h : k + 1 < s.size) (hc : ¬ (s[k + 1]'h = 34 ∨ s[k + 1]'h = 92)) (hx : s[k + 1]'h = 120) : escP s.data.toList k (k + 1, []) = ((digitP s.data.toList k).bind fun h => (digitP s.data.toList k).bind fun l => Pr.pure (UInt8.ofNat (16 * h + l))) (k + 2, []) := by
  unfold escP; rw [Pr.bind_ok (next_ok [] h), if_neg hc, if_pos hx]
theorem dig_ok {s : ByteArray} {o j d : Nat} (h : j < s.size) (hv : hexV (s[j]'h) = some d) : digitP s.data.toList o (j, []) = .ok (d, (j + 1, [])) := by
  unfold digitP; rw [Pr.bind_ok (next_ok [] h)]; (try dsimp only); rw [hv]
theorem dig_bad {s : ByteArray} {o j : Nat} (h : j < s.size) (hv : hexV (s[j]'h) = none) : digitP s.data.toList o (j, []) = .error o := by
  unfold digitP; rw [Pr.bind_ok (next_ok [] h)]; (try dsimp only); rw [hv]
theorem dig_cut {s : ByteArray} {o j : Nat} (h : j = s.size) : digitP s.data.toList o (j, []) = .error s.size := by
  unfold digitP; rw [h]; exact Pr.bind_err (next_end [])
def HexTo (s : ByteArray) (k m x : Nat) : Prop := (m = 0 ∧ x = 0) ∨ (m = 1 ∧ digitP s.data.toList k (k + 2, []) = .ok (x, (k + 3, []))) ∨ (m = 2 ∧ ∃ h l, digitP s.data.toList k (k + 2, []) = .ok (h, (k + 3, [])) ∧ digitP s.data.toList k (k + 3, []) = .ok (l, (k + 4, [])) ∧ x = 16 * h + l)
theorem HexTo.bad {s : ByteArray} {k m x : Nat} (h : HexTo s k m x) (hm : m < 2) (hin : k + 2 + m < s.size) (hv : hexV (s[k + 2 + m]'hin) = none) : ((digitP s.data.toList k).bind fun h => (digitP s.data.toList k).bind fun l => Pr.pure (UInt8.ofNat (16 * h + l))) (k + 2, []) = .error k := by
  rcases h with ⟨rfl, rfl⟩ | ⟨rfl, h1⟩ | ⟨rfl, h, l, h1, h2, _⟩
  · exact Pr.bind_err (dig_bad hin hv)
  · exact (Pr.bind_ok h1).trans (Pr.bind_err (dig_bad (j := k + 3) hin hv))
  omega
theorem HexTo.next {s : ByteArray} {k m x d : Nat} (h : HexTo s k m x) (hm : m < 2) (hin : k + 2 + m < s.size) (hv : hexV (s[k + 2 + m]'hin) = some d) : HexTo s k (m + 1) (16 * x + d) := by
  rcases h with ⟨rfl, rfl⟩ | ⟨rfl, h1⟩ | ⟨rfl, h, l, h1, h2, _⟩
  · exact .inr (.inl ⟨rfl, by rw [Nat.mul_zero, Nat.zero_add]; exact dig_ok hin hv⟩)
  · exact .inr (.inr ⟨rfl, x, d, h1, dig_ok (j := k + 3) hin hv, rfl⟩)
  omega
theorem HexTo.lt {s : ByteArray} {k m x : Nat} (h : HexTo s k m x) : x < 256 := by
  rcases h with ⟨rfl, rfl⟩ | ⟨rfl, h1⟩ | ⟨rfl, h, l, h1, h2, rfl⟩
  · decide
  · have := digit_lt h1; omega
  have := digit_lt h1; have := digit_lt h2; omega
theorem HexTo.cut {s : ByteArray} {k m x : Nat} (h : HexTo s k m x) (hm : m < 2) (hs : k + 2 + m = s.size) : ((digitP s.data.toList k).bind fun h => (digitP s.data.toList k).bind fun l => Pr.pure (UInt8.ofNat (16 * h + l))) (k + 2, []) = .error s.size := by
  rcases h with ⟨rfl, rfl⟩ | ⟨rfl, h1⟩ | ⟨rfl, h, l, h1, h2, _⟩
  · exact Pr.bind_err (dig_cut hs)
  · exact (Pr.bind_ok h1).trans (Pr.bind_err (dig_cut hs))
  omega
theorem HexTo.done {s : ByteArray} {k x : Nat} (h : HexTo s k 2 x) : ((digitP s.data.toList k).bind fun h => (digitP s.data.toList k).bind fun l => Pr.pure (UInt8.ofNat (16 * h + l))) (k + 2, []) = .ok (UInt8.ofNat x, (k + 4, [])) := by
  rcases h with ⟨h, _⟩ | ⟨h, _⟩ | ⟨_, h, l, h1, h2, rfl⟩
  · cases h
  · cases h
  exact (Pr.bind_ok h1).trans ((Pr.bind_ok h2).trans rfl)
theorem quote82 (s : ByteArray) (a : Nat) (ha : a < s.size) (hs : s.size ≤ 65536) (W : World) : Calls Tryz.prog 82 #[.string s, .int .i64 (a : Int)] W (QtQ W a (quoP s.data.toList D0 [] (a + 1, []))) := by
  obtain ⟨R, hRes⟩ : ∃ R, R = quoP s.data.toList D0 [] (a + 1, []) := ⟨_, rfl⟩
  rw [← hRes]
  have HRes := hidP hRes.symm
  obtain ⟨V, hV⟩ : ∃ V, ((W.alloc (.cells #[.int .i64 0, .string ⟨#[]⟩, .int .i64 0, .int .i64 0, .int .i64 0] 64)).alloc (.cells #[.int .i64 3, .string ⟨#[]⟩, .int .i64 (a : Int), .int .i64 0, .int .i64 (-1)] 64)).alloc (.cells #[] 5) = V := ⟨_, rfl⟩
  obtain ⟨hB0, hA0, hg0⟩ := tok_new W a
  rw [hV] at hB0 hA0 hg0
  obtain ⟨b, hb⟩ : ∃ b, b = W.heap.size := ⟨_, rfl⟩
  rw [← hb] at hB0 hA0
  have HB0 := hidP hB0
  have HA0 := hidP hA0
  have HG0 := hidP hg0
  have HV := hidP hV
  have Hb := hidP hb
  have HHx := hidP hexOf110
  have hadd1 : IntKind.i64.wrap ((a : Int) + 1) = ((a + 1 : Nat) : Int) := by rw [IntKind.wrap_i64]; omega
  have hbs : b + 1 + 1 = b + 2 := rfl
  clear hRes hB0 hA0 hg0 hV hb
  go_enter Tryz.func82, Tryz.ntmps82
  go_wp2_with fail
  rw [HV.out, ← Hb.out]
  clear HV
  go_loopw [6, 7] (fun v i wr => ∃ (k n : Nat) (acc : List UInt8) (vo : Option Addr) (vc : Nat), a + 1 ≤ k ∧ k ≤ s.size ∧ s.size - k < n ∧ acc.length ≤ k ∧ i = .int .i64 (k : Int) ∧ v = .slice vo acc.length vc ∧ Hid (LAt W wr 5 1 u8v acc vo vc) ∧ Hid (TK wr b a) ∧ Hid (Gr W wr) ∧ Hid (quoP s.data.toList n acc (k, []) = R)) (fun _ i _ => s.size - (intOf i).toNat)
  case atStart => exact ⟨a + 1, D0, [], some ⟨b + 1 + 1, 0, none⟩, 0, Nat.le_refl _, by omega, by show _ < 65537; omega, Nat.zero_le _, by simp, rfl, HA0.out, HB0.out, HG0.out, HRes.out⟩
  case round =>
    clear HA0 HB0 HG0 HRes
    obtain ⟨k, n, acc, vo, vc, hak, hk, hn, hal, rfl, rfl, HA, HB, HG, HS⟩ := hrel
    obtain ⟨n, rfl⟩ : ∃ m, n = m + 1 := ⟨n - 1, by omega⟩
    have hadd : IntKind.i64.wrap ((k : Int) + 1) = ((k + 1 : Nat) : Int) := by rw [IntKind.wrap_i64]; omega
    by_cases hlt : k < s.size
    · have hltI : (k : Int) < (s.size : Int) := by omega
      have HS1 := hidP ((quo_next (acc := acc) (n := n) (next_ok (g := []) hlt)).symm.trans HS.out)
      have hC : (s[k]'hlt).toNat < 256 := UInt8.toNat_lt _
      have e34 : (((s[k]'hlt).toNat : Int) == 34) = decide ((s[k]'hlt) = 34) := by rw [Bool.eq_iff_iff]; simp only [beq_iff_eq, decide_eq_true_eq]; exact ⟨fun h => UInt8.toNat_inj.1 (by show (s[k]'hlt).toNat = 34; omega), fun h => by rw [h]; rfl⟩
      by_cases h34 : (s[k]'hlt) = 34
      · rw [decide_eq_true h34] at e34
        have HE : Hid (R = .ok (⟨acc.toArray⟩, (k + 1, []))) := by show R = _; rw [← HS1.out, if_pos h34]; rfl
        have hcv := bytes_str HA.out
        clear h34
        have u0 := frz HB.out.rb 0
        have v0 : wr.cell? ⟨b, 0, none⟩ = some (.int .i64 0) := by simp [World.cell?, HB.out.rb]
        have u1 := frz HB.out.rb 1
        have v1 : wr.cell? ⟨b, 1, none⟩ = some (.string ⟨#[]⟩) := by simp [World.cell?, HB.out.rb]
        have u2 := frz HB.out.rb 2
        have v2 : wr.cell? ⟨b, 2, none⟩ = some (.int .i64 0) := by simp [World.cell?, HB.out.rb]
        have u3 := frz HB.out.rb 3
        have v3 : wr.cell? ⟨b, 3, none⟩ = some (.int .i64 0) := by simp [World.cell?, HB.out.rb]
        have u4 := frz HB.out.rb 4
        have v4 : wr.cell? ⟨b, 4, none⟩ = some (.int .i64 0) := by simp [World.cell?, HB.out.rb]
        have f0 := frz HB.out.tb 0
        have s0 : wr.cell? ⟨b + 1, 0, none⟩ = some (.int .i64 3) := by simp [World.cell?, HB.out.tb]
        have f1 := frz HB.out.tb 1
        have s1 : wr.cell? ⟨b + 1, 1, none⟩ = some (.string ⟨#[]⟩) := by simp [World.cell?, HB.out.tb]
        have f2 := frz HB.out.tb 2
        have s2 : wr.cell? ⟨b + 1, 2, none⟩ = some (.int .i64 (a : Int)) := by simp [World.cell?, HB.out.tb]
        have f3 := frz HB.out.tb 3
        have s3 : wr.cell? ⟨b + 1, 3, none⟩ = some (.int .i64 0) := by simp [World.cell?, HB.out.tb]
        have f4 := frz HB.out.tb 4
        have s4 : wr.cell? ⟨b + 1, 4, none⟩ = some (.int .i64 (-1)) := by simp [World.cell?, HB.out.tb]
        have n1 : ¬ b + 1 = b := by omega
        have n2 : ¬ b = b + 1 := by omega
        go_wp2_with fail
        obtain ⟨hb3, k3⟩ := tok_ok (x := ⟨acc.toArray⟩) (q := k + 1) HB.out
        (try simp only [Exit.inBlock, Exit.then])
        exact bodyPost_ret (results_cell64 rfl rfl hb3 (by kernel_rfl)) rfl (QtQ.ok (HG.out.trans k3 fun z hz h => by have := Hb.out; omega) HE.out)
      rw [decide_eq_false h34] at e34
      by_cases hpl : 32 ≤ (s[k]'hlt).toNat ∧ (s[k]'hlt).toNat ≤ 126
      · have p1 : ¬ ((s[k]'hlt).toNat : Int) < 32 := by omega
        have p2 : ¬ (126 : Int) < ((s[k]'hlt).toNat : Int) := by omega
        have hpB : plainB (s[k]'hlt) = true := by unfold plainB; simp [hpl]
        by_cases h92 : (s[k]'hlt) = 92
        · have e92 : (((s[k]'hlt).toNat : Int) != 92) = false := by rw [h92]; rfl
          have HS2 : Hid (((escP s.data.toList k).bind fun x => quoP s.data.toList n (acc ++ [x])) (k + 1, []) = R) := by show _ = R; rw [← HS1.out, if_neg h34, if_pos h92]
          clear h34 h92 HS1 hpB hpl
          by_cases hlt1 : k + 1 < s.size
          · have hne1 : (((k + 1 : Nat) : Int) == (s.size : Int)) = false := beq_eq_false_iff_ne.2 (by omega)
            have hlt1I : ((k + 1 : Nat) : Int) < (s.size : Int) := by omega
            have g34 : (((s[k + 1]'hlt1).toNat : Int) == 34) = decide ((s[k + 1]'hlt1) = 34) := by rw [Bool.eq_iff_iff]; simp only [beq_iff_eq, decide_eq_true_eq]; exact ⟨fun h => UInt8.toNat_inj.1 (by show (s[k + 1]'hlt1).toNat = 34; omega), fun h => by rw [h]; rfl⟩
            have g92 : (((s[k + 1]'hlt1).toNat : Int) == 92) = decide ((s[k + 1]'hlt1) = 92) := by rw [Bool.eq_iff_iff]; simp only [beq_iff_eq, decide_eq_true_eq]; exact ⟨fun h => UInt8.toNat_inj.1 (by show (s[k + 1]'hlt1).toNat = 92; omega), fun h => by rw [h]; rfl⟩
            by_cases hs1 : (s[k + 1]'hlt1) = 34 ∨ (s[k + 1]'hlt1) = 92
            · have HE : Hid (quoP s.data.toList n (acc ++ [(s[k + 1]'hlt1)]) (k + 2, []) = R) := by show _ = R; rw [← HS2.out]; exact (Pr.bind_ok (f := fun x => quoP s.data.toList n (acc ++ [x])) (esc_sign hlt1 hs1)).symm
              have hadd2 : IntKind.i64.wrap (((k + 1 : Nat) : Int) + 1) = ((k + 2 : Nat) : Int) := by rw [IntKind.wrap_i64]; omega
              by_cases hq : (s[k + 1]'hlt1) = 34
              · rw [decide_eq_true hq] at g34
                clear hs1 hq HS2
                have HSr := hidP (srcU8 wr ((s[k + 1]'hlt1).toNat : Int))
                go_wp2_with (with_reducible show wpList Tryz.prog _ _ (Oper.mk (some 72) _ _ _ _ _ :: _) _ _; refine Hid.out ?_)
                unfold Hid
                refine wpList_append_any (P := Tryz.prog) _ rfl (.tmp 66) (.tmp 71) 111 111 rfl 5 (.int .u8 0) 1 Tryz.underlying111 infoU8 rfl _ acc.length (acc.flatMap u8v) rfl (HA.out.own.alloc _) _ 1 [.int .u8 ((s[k + 1]'hlt1).toNat : Int)] rfl HSr.out (by omega) (by omega) ?_
                refine Hid.out ?_
                unfold Hid
                intro v' w1 hown hgrow hblk
                obtain ⟨vo', vc', rfl⟩ := own_formK hown
                have hL : acc.length + 1 = (acc ++ [(s[k + 1]'hlt1)]).length := by simp
                rw [hL] at hown hblk ⊢
                have gA : Gr wr (wr.alloc (.cells #[.int .u8 ((s[k + 1]'hlt1).toNat : Int)] 5)) := gr_alloc wr _
                have kA : Keeps wr w1 (fun z => (Value.slice vo acc.length vc).ownBlock = some z) := (gA.mono fun _ _ h => h.elim).trans (Keeps.ofGrown hgrow) (fun _ _ h => h)
                have HG3 : Hid (Gr W w1) := HG.out.trans kA fun j hj h => by have := HA.out.new j h; omega
                have HB3 := hidP (HB.out.app HA.out kA)
                have HA3 : Hid (LAt W w1 5 1 u8v (acc ++ [(s[k + 1]'hlt1)]) vo' vc') := ⟨by rw [List.flatMap_append]; exact hown, fun g e => hblk.elim (fun q => HA.out.new g (q ▸ e)) (fun q => by have := q g e; have := HG.out.size; have := gA.size; omega)⟩
                clear hown hgrow hblk gA kA hL HSr HA HB HG
                go_wp2_with fail
                go_roundw
                case rel => exact ⟨k + 2, n, acc ++ [(s[k + 1]'hlt1)], vo', vc', by omega, by omega, by omega, by simp; omega, (by simp; try omega), (by first | rfl | trivial | simp), HA3.out, HB3.out, HG3.out, HE.out⟩
                case measure => simp [intOf]; omega
              rw [decide_eq_false hq] at g34
              rw [decide_eq_true (hs1.resolve_left hq)] at g92
              clear hs1 hq HS2
              have HSr := hidP (srcU8 wr ((s[k + 1]'hlt1).toNat : Int))
              go_wp2_with (with_reducible show wpList Tryz.prog _ _ (Oper.mk (some 72) _ _ _ _ _ :: _) _ _; refine Hid.out ?_)
              unfold Hid
              refine wpList_append_any (P := Tryz.prog) _ rfl (.tmp 66) (.tmp 71) 111 111 rfl 5 (.int .u8 0) 1 Tryz.underlying111 infoU8 rfl _ acc.length (acc.flatMap u8v) rfl (HA.out.own.alloc _) _ 1 [.int .u8 ((s[k + 1]'hlt1).toNat : Int)] rfl HSr.out (by omega) (by omega) ?_
              refine Hid.out ?_
              unfold Hid
              intro v' w1 hown hgrow hblk
              obtain ⟨vo', vc', rfl⟩ := own_formK hown
              have hL : acc.length + 1 = (acc ++ [(s[k + 1]'hlt1)]).length := by simp
              rw [hL] at hown hblk ⊢
              have gA : Gr wr (wr.alloc (.cells #[.int .u8 ((s[k + 1]'hlt1).toNat : Int)] 5)) := gr_alloc wr _
              have kA : Keeps wr w1 (fun z => (Value.slice vo acc.length vc).ownBlock = some z) := (gA.mono fun _ _ h => h.elim).trans (Keeps.ofGrown hgrow) (fun _ _ h => h)
              have HG3 : Hid (Gr W w1) := HG.out.trans kA fun j hj h => by have := HA.out.new j h; omega
              have HB3 := hidP (HB.out.app HA.out kA)
              have HA3 : Hid (LAt W w1 5 1 u8v (acc ++ [(s[k + 1]'hlt1)]) vo' vc') := ⟨by rw [List.flatMap_append]; exact hown, fun g e => hblk.elim (fun q => HA.out.new g (q ▸ e)) (fun q => by have := q g e; have := HG.out.size; have := gA.size; omega)⟩
              clear hown hgrow hblk gA kA hL HSr HA HB HG
              go_wp2_with fail
              go_roundw
              case rel => exact ⟨k + 2, n, acc ++ [(s[k + 1]'hlt1)], vo', vc', by omega, by omega, by omega, by simp; omega, (by simp; try omega), (by first | rfl | trivial | simp), HA3.out, HB3.out, HG3.out, HE.out⟩
              case measure => simp [intOf]; omega
            rw [decide_eq_false (fun h => hs1 (.inl h))] at g34
            rw [decide_eq_false (fun h => hs1 (.inr h))] at g92
            by_cases hx : (s[k + 1]'hlt1) = 120
            · have g120 : (((s[k + 1]'hlt1).toNat : Int) != 120) = false := by rw [hx]; rfl
              have HX : Hid (((digitP s.data.toList k).bind fun h => (digitP s.data.toList k).bind fun l => Pr.pure (UInt8.ofNat (16 * h + l))) (k + 2, []) = escP s.data.toList k (k + 1, [])) := (esc_x hlt1 hs1 hx).symm
              have hadd2 : IntKind.i64.wrap ((k : Int) + 2) = ((k + 2 : Nat) : Int) := by rw [IntKind.wrap_i64]; omega
              have hadd4 : IntKind.i64.wrap ((k : Int) + 4) = ((k + 4 : Nat) : Int) := by rw [IntKind.wrap_i64]; omega
              have hadd3 : IntKind.i64.wrap ((k : Int) + 3) = ((k + 3 : Nat) : Int) := by rw [IntKind.wrap_i64]; omega
              clear hs1 hx
              go_wp2_with fail
              go_loopw [9, 10] (fun N i w2 => ∃ m x : Nat, m ≤ 2 ∧ k + 2 + m ≤ s.size ∧ x < 256 ∧ i = .int .i64 ((k + 2 + m : Nat) : Int) ∧ N = .int .i64 (x : Int) ∧ Hid (w2 = wr ∧ HexTo s k m x)) (fun _ i _ => k + 4 - (intOf i).toNat)
              case atStart => exact ⟨0, 0, by omega, by omega, by omega, by simp, by simp, rfl, .inl ⟨rfl, rfl⟩⟩
              case round =>
                obtain ⟨m, x, hm, hmk, hx256, rfl, rfl, HH⟩ := hrel
                have hw := HH.out.1
                subst hw
                have HHx2 := hidP HH.out.2
                clear HH
                have haddm : IntKind.i64.wrap (((k + 2 + m : Nat) : Int) + 1) = ((k + 2 + (m + 1) : Nat) : Int) := by rw [IntKind.wrap_i64]; omega
                by_cases hm2 : m < 2
                · have q1 : ((k + 2 + m : Nat) : Int) < ((k + 4 : Nat) : Int) := by omega
                  by_cases hin : k + 2 + m < s.size
                  · have q2 : ((k + 2 + m : Nat) : Int) < (s.size : Int) := by omega
                    have HQ := hidP (fun V => HHx.out (s[k + 2 + m]'hin) V)
                    cases hv : hexV (s[k + 2 + m]'hin) with
                    | none =>
                      have hI : hexI (s[k + 2 + m]'hin) = -1 := by unfold hexI; rw [hv]; rfl
                      rw [hI] at HQ
                      have HE : Hid (R = .error k) := by show R = _; rw [← HS2.out]; exact Pr.bind_err (HX.out.symm.trans (HHx2.out.bad hm2 hin hv))
                      clear hv hI HX HS2
                      have u0 := frz HB.out.rb 0
                      have v0 : wr.cell? ⟨b, 0, none⟩ = some (.int .i64 0) := by simp [World.cell?, HB.out.rb]
                      have u1 := frz HB.out.rb 1
                      have v1 : wr.cell? ⟨b, 1, none⟩ = some (.string ⟨#[]⟩) := by simp [World.cell?, HB.out.rb]
                      have u2 := frz HB.out.rb 2
                      have v2 : wr.cell? ⟨b, 2, none⟩ = some (.int .i64 0) := by simp [World.cell?, HB.out.rb]
                      have u3 := frz HB.out.rb 3
                      have v3 : wr.cell? ⟨b, 3, none⟩ = some (.int .i64 0) := by simp [World.cell?, HB.out.rb]
                      have u4 := frz HB.out.rb 4
                      have v4 : wr.cell? ⟨b, 4, none⟩ = some (.int .i64 0) := by simp [World.cell?, HB.out.rb]
                      have f0 := frz HB.out.tb 0
                      have s0 : wr.cell? ⟨b + 1, 0, none⟩ = some (.int .i64 3) := by simp [World.cell?, HB.out.tb]
                      have f1 := frz HB.out.tb 1
                      have s1 : wr.cell? ⟨b + 1, 1, none⟩ = some (.string ⟨#[]⟩) := by simp [World.cell?, HB.out.tb]
                      have f2 := frz HB.out.tb 2
                      have s2 : wr.cell? ⟨b + 1, 2, none⟩ = some (.int .i64 (a : Int)) := by simp [World.cell?, HB.out.tb]
                      have f3 := frz HB.out.tb 3
                      have s3 : wr.cell? ⟨b + 1, 3, none⟩ = some (.int .i64 0) := by simp [World.cell?, HB.out.tb]
                      have f4 := frz HB.out.tb 4
                      have s4 : wr.cell? ⟨b + 1, 4, none⟩ = some (.int .i64 (-1)) := by simp [World.cell?, HB.out.tb]
                      have n1 : ¬ b + 1 = b := by omega
                      have n2 : ¬ b = b + 1 := by omega
                      go_wp2_with (go_at_call 110; refine Calls.mono (HQ.out _) ?_; rintro e u ⟨rfl, rfl⟩)
                      obtain ⟨hb3, k3⟩ := tok_fault (o := k) HB.out
                      (try simp only [Exit.inBlock, Exit.then])
                      exact bodyPost_ret (results_cell64 rfl rfl hb3 (by kernel_rfl)) rfl (QtQ.err (HG.out.trans k3 fun z hz h => by have := Hb.out; omega) HE.out)
                    | some d =>
                      have hd := hex_lt hv
                      have hI : hexI (s[k + 2 + m]'hin) = (d : Int) := by unfold hexI; rw [hv]; rfl
                      rw [hI] at HQ
                      have HN : Hid (HexTo s k (m + 1) (16 * x + d)) := HHx2.out.next hm2 hin hv
                      have hxs : 16 * x + d < 256 := HN.out.lt
                      have hnd : ¬ (d : Int) < 0 := by omega
                      have hmul : IntKind.i64.wrap (16 * (x : Int)) = ((16 * x : Nat) : Int) := by rw [IntKind.wrap_i64]; omega
                      have hsum : IntKind.i64.wrap (((16 * x : Nat) : Int) + (d : Int)) = ((16 * x + d : Nat) : Int) := by rw [IntKind.wrap_i64]; omega
                      clear hv hI
                      go_wp2_with (go_at_call 110; refine Calls.mono (HQ.out _) ?_; rintro e u ⟨rfl, rfl⟩)
                      go_roundw
                      case rel => exact ⟨m + 1, 16 * x + d, by omega, by omega, hxs, (by simp; try omega), (by simp; try omega), (by first | exact ⟨rfl, HN.out⟩ | exact ⟨trivial, HN.out⟩ | exact HN.out)⟩
                      case measure => simp [intOf]; omega
                  have q2 : ¬ ((k + 2 + m : Nat) : Int) < (s.size : Int) := by omega
                  have q4 : (s.size : Int) < ((k + 4 : Nat) : Int) := by omega
                  have HE : Hid (R = .error s.size) := by show R = _; rw [← HS2.out]; exact Pr.bind_err (HX.out.symm.trans (HHx2.out.cut hm2 (by omega)))
                  clear HX HS2
                  have u0 := frz HB.out.rb 0
                  have v0 : wr.cell? ⟨b, 0, none⟩ = some (.int .i64 0) := by simp [World.cell?, HB.out.rb]
                  have u1 := frz HB.out.rb 1
                  have v1 : wr.cell? ⟨b, 1, none⟩ = some (.string ⟨#[]⟩) := by simp [World.cell?, HB.out.rb]
                  have u2 := frz HB.out.rb 2
                  have v2 : wr.cell? ⟨b, 2, none⟩ = some (.int .i64 0) := by simp [World.cell?, HB.out.rb]
                  have u3 := frz HB.out.rb 3
                  have v3 : wr.cell? ⟨b, 3, none⟩ = some (.int .i64 0) := by simp [World.cell?, HB.out.rb]
                  have u4 := frz HB.out.rb 4
                  have v4 : wr.cell? ⟨b, 4, none⟩ = some (.int .i64 0) := by simp [World.cell?, HB.out.rb]
                  have f0 := frz HB.out.tb 0
                  have s0 : wr.cell? ⟨b + 1, 0, none⟩ = some (.int .i64 3) := by simp [World.cell?, HB.out.tb]
                  have f1 := frz HB.out.tb 1
                  have s1 : wr.cell? ⟨b + 1, 1, none⟩ = some (.string ⟨#[]⟩) := by simp [World.cell?, HB.out.tb]
                  have f2 := frz HB.out.tb 2
                  have s2 : wr.cell? ⟨b + 1, 2, none⟩ = some (.int .i64 (a : Int)) := by simp [World.cell?, HB.out.tb]
                  have f3 := frz HB.out.tb 3
                  have s3 : wr.cell? ⟨b + 1, 3, none⟩ = some (.int .i64 0) := by simp [World.cell?, HB.out.tb]
                  have f4 := frz HB.out.tb 4
                  have s4 : wr.cell? ⟨b + 1, 4, none⟩ = some (.int .i64 (-1)) := by simp [World.cell?, HB.out.tb]
                  have n1 : ¬ b + 1 = b := by omega
                  have n2 : ¬ b = b + 1 := by omega
                  go_wp2_with fail
                  obtain ⟨hb3, k3⟩ := tok_fault (o := s.size) HB.out
                  (try simp only [Exit.inBlock, Exit.then])
                  exact bodyPost_ret (results_cell64 rfl rfl hb3 (by kernel_rfl)) rfl (QtQ.err (HG.out.trans k3 fun z hz h => by have := Hb.out; omega) HE.out)
                obtain rfl : m = 2 := by omega
                have q1 : ¬ ((k + 2 + 2 : Nat) : Int) < ((k + 4 : Nat) : Int) := by omega
                have q4 : ¬ (s.size : Int) < ((k + 4 : Nat) : Int) := by omega
                have HE : Hid (quoP s.data.toList n (acc ++ [UInt8.ofNat x]) (k + 4, []) = R) := by show _ = R; rw [← HS2.out]; exact (Pr.bind_ok (f := fun x => quoP s.data.toList n (acc ++ [x])) (HX.out.symm.trans HHx2.out.done)).symm
                have hcb : IntKind.u8.wrap (x : Int) = ((UInt8.ofNat x).toNat : Int) := by rw [UInt8.toNat_ofNat']; show (x : Int) % 256 = _; omega
                have hadd5 : IntKind.i64.wrap (((k + 3 : Nat) : Int) + 1) = ((k + 4 : Nat) : Int) := by rw [IntKind.wrap_i64]; omega
                clear HX HS2
                generalize UInt8.ofNat x = y at HE hcb
                have HSr := hidP (srcU8 wr (y.toNat : Int))
                go_wp2_with (with_reducible show wpList Tryz.prog _ _ (Oper.mk (some 121) _ _ _ _ _ :: _) _ _; refine Hid.out ?_)
                unfold Hid
                refine wpList_append_any (P := Tryz.prog) _ rfl (.tmp 117) (.tmp 120) 111 111 rfl 5 (.int .u8 0) 1 Tryz.underlying111 infoU8 rfl _ acc.length (acc.flatMap u8v) rfl (HA.out.own.alloc _) _ 1 [.int .u8 (y.toNat : Int)] rfl HSr.out (by omega) (by omega) ?_
                refine Hid.out ?_
                unfold Hid
                intro v' w1 hown hgrow hblk
                obtain ⟨vo', vc', rfl⟩ := own_formK hown
                have hL : acc.length + 1 = (acc ++ [y]).length := by simp
                rw [hL] at hown hblk ⊢
                have gA : Gr wr (wr.alloc (.cells #[.int .u8 (y.toNat : Int)] 5)) := gr_alloc wr _
                have kA : Keeps wr w1 (fun z => (Value.slice vo acc.length vc).ownBlock = some z) := (gA.mono fun _ _ h => h.elim).trans (Keeps.ofGrown hgrow) (fun _ _ h => h)
                have HG3 : Hid (Gr W w1) := HG.out.trans kA fun j hj h => by have := HA.out.new j h; omega
                have HB3 := hidP (HB.out.app HA.out kA)
                have HA3 : Hid (LAt W w1 5 1 u8v (acc ++ [y]) vo' vc') := ⟨by rw [List.flatMap_append]; exact hown, fun g e => hblk.elim (fun q => HA.out.new g (q ▸ e)) (fun q => by have := q g e; have := HG.out.size; have := gA.size; omega)⟩
                clear hown hgrow hblk gA kA hL HSr HA HB HG
                go_wp2_with fail
                go_roundw
                case rel => exact ⟨k + 4, n, acc ++ [y], vo', vc', by omega, by omega, by omega, by simp; omega, (by simp; try omega), (by first | rfl | trivial | simp), HA3.out, HB3.out, HG3.out, HE.out⟩
                case measure => simp [intOf]; omega
            have g120 : (((s[k + 1]'hlt1).toNat : Int) != 120) = true := bne_iff_ne.2 fun h => hx (UInt8.toNat_inj.1 (by show (s[k + 1]'hlt1).toNat = 120; omega))
            have HE : Hid (R = .error k) := by show R = _; rw [← HS2.out]; exact Pr.bind_err (esc_bad hlt1 hs1 hx)
            clear hs1 hx HS2
            have u0 := frz HB.out.rb 0
            have v0 : wr.cell? ⟨b, 0, none⟩ = some (.int .i64 0) := by simp [World.cell?, HB.out.rb]
            have u1 := frz HB.out.rb 1
            have v1 : wr.cell? ⟨b, 1, none⟩ = some (.string ⟨#[]⟩) := by simp [World.cell?, HB.out.rb]
            have u2 := frz HB.out.rb 2
            have v2 : wr.cell? ⟨b, 2, none⟩ = some (.int .i64 0) := by simp [World.cell?, HB.out.rb]
            have u3 := frz HB.out.rb 3
            have v3 : wr.cell? ⟨b, 3, none⟩ = some (.int .i64 0) := by simp [World.cell?, HB.out.rb]
            have u4 := frz HB.out.rb 4
            have v4 : wr.cell? ⟨b, 4, none⟩ = some (.int .i64 0) := by simp [World.cell?, HB.out.rb]
            have f0 := frz HB.out.tb 0
            have s0 : wr.cell? ⟨b + 1, 0, none⟩ = some (.int .i64 3) := by simp [World.cell?, HB.out.tb]
            have f1 := frz HB.out.tb 1
            have s1 : wr.cell? ⟨b + 1, 1, none⟩ = some (.string ⟨#[]⟩) := by simp [World.cell?, HB.out.tb]
            have f2 := frz HB.out.tb 2
            have s2 : wr.cell? ⟨b + 1, 2, none⟩ = some (.int .i64 (a : Int)) := by simp [World.cell?, HB.out.tb]
            have f3 := frz HB.out.tb 3
            have s3 : wr.cell? ⟨b + 1, 3, none⟩ = some (.int .i64 0) := by simp [World.cell?, HB.out.tb]
            have f4 := frz HB.out.tb 4
            have s4 : wr.cell? ⟨b + 1, 4, none⟩ = some (.int .i64 (-1)) := by simp [World.cell?, HB.out.tb]
            have n1 : ¬ b + 1 = b := by omega
            have n2 : ¬ b = b + 1 := by omega
            go_wp2_with fail
            obtain ⟨hb3, k3⟩ := tok_fault (o := k) HB.out
            (try simp only [Exit.inBlock, Exit.then])
            exact bodyPost_ret (results_cell64 rfl rfl hb3 (by kernel_rfl)) rfl (QtQ.err (HG.out.trans k3 fun z hz h => by have := Hb.out; omega) HE.out)
          have hsz : k + 1 = s.size := by omega
          have hne1 : (((k + 1 : Nat) : Int) == (s.size : Int)) = true := beq_iff_eq.2 (by omega)
          have HE : Hid (R = .error s.size) := by show R = _; rw [← HS2.out]; exact Pr.bind_err (esc_end hsz)
          clear hsz HS2
          have u0 := frz HB.out.rb 0
          have v0 : wr.cell? ⟨b, 0, none⟩ = some (.int .i64 0) := by simp [World.cell?, HB.out.rb]
          have u1 := frz HB.out.rb 1
          have v1 : wr.cell? ⟨b, 1, none⟩ = some (.string ⟨#[]⟩) := by simp [World.cell?, HB.out.rb]
          have u2 := frz HB.out.rb 2
          have v2 : wr.cell? ⟨b, 2, none⟩ = some (.int .i64 0) := by simp [World.cell?, HB.out.rb]
          have u3 := frz HB.out.rb 3
          have v3 : wr.cell? ⟨b, 3, none⟩ = some (.int .i64 0) := by simp [World.cell?, HB.out.rb]
          have u4 := frz HB.out.rb 4
          have v4 : wr.cell? ⟨b, 4, none⟩ = some (.int .i64 0) := by simp [World.cell?, HB.out.rb]
          have f0 := frz HB.out.tb 0
          have s0 : wr.cell? ⟨b + 1, 0, none⟩ = some (.int .i64 3) := by simp [World.cell?, HB.out.tb]
          have f1 := frz HB.out.tb 1
          have s1 : wr.cell? ⟨b + 1, 1, none⟩ = some (.string ⟨#[]⟩) := by simp [World.cell?, HB.out.tb]
          have f2 := frz HB.out.tb 2
          have s2 : wr.cell? ⟨b + 1, 2, none⟩ = some (.int .i64 (a : Int)) := by simp [World.cell?, HB.out.tb]
          have f3 := frz HB.out.tb 3
          have s3 : wr.cell? ⟨b + 1, 3, none⟩ = some (.int .i64 0) := by simp [World.cell?, HB.out.tb]
          have f4 := frz HB.out.tb 4
          have s4 : wr.cell? ⟨b + 1, 4, none⟩ = some (.int .i64 (-1)) := by simp [World.cell?, HB.out.tb]
          have n1 : ¬ b + 1 = b := by omega
          have n2 : ¬ b = b + 1 := by omega
          go_wp2_with fail
          obtain ⟨hb3, k3⟩ := tok_fault (o := s.size) HB.out
          (try simp only [Exit.inBlock, Exit.then])
          exact bodyPost_ret (results_cell64 rfl rfl hb3 (by kernel_rfl)) rfl (QtQ.err (HG.out.trans k3 fun z hz h => by have := Hb.out; omega) HE.out)
        have e92 : (((s[k]'hlt).toNat : Int) != 92) = true := bne_iff_ne.2 fun h => h92 (UInt8.toNat_inj.1 (by show (s[k]'hlt).toNat = 92; omega))
        have HE : Hid (quoP s.data.toList n (acc ++ [(s[k]'hlt)]) (k + 1, []) = R) := by show _ = R; rw [← HS1.out, if_neg h34, if_neg h92, if_pos hpB]
        clear h34 h92 hpB hpl HS1
        have HSr := hidP (srcU8 wr ((s[k]'hlt).toNat : Int))
        go_wp2_with (with_reducible show wpList Tryz.prog _ _ (Oper.mk (some 48) _ _ _ _ _ :: _) _ _; refine Hid.out ?_)
        unfold Hid
        refine wpList_append_any (P := Tryz.prog) _ rfl (.tmp 45) (.tmp 47) 111 111 rfl 5 (.int .u8 0) 1 Tryz.underlying111 infoU8 rfl _ acc.length (acc.flatMap u8v) rfl (HA.out.own.alloc _) _ 1 [.int .u8 ((s[k]'hlt).toNat : Int)] rfl HSr.out (by omega) (by omega) ?_
        refine Hid.out ?_
        unfold Hid
        intro v' w1 hown hgrow hblk
        obtain ⟨vo', vc', rfl⟩ := own_formK hown
        have hL : acc.length + 1 = (acc ++ [(s[k]'hlt)]).length := by simp
        rw [hL] at hown hblk ⊢
        have gA : Gr wr (wr.alloc (.cells #[.int .u8 ((s[k]'hlt).toNat : Int)] 5)) := gr_alloc wr _
        have kA : Keeps wr w1 (fun z => (Value.slice vo acc.length vc).ownBlock = some z) := (gA.mono fun _ _ h => h.elim).trans (Keeps.ofGrown hgrow) (fun _ _ h => h)
        have HG3 : Hid (Gr W w1) := HG.out.trans kA fun j hj h => by have := HA.out.new j h; omega
        have HB3 := hidP (HB.out.app HA.out kA)
        have HA3 : Hid (LAt W w1 5 1 u8v (acc ++ [(s[k]'hlt)]) vo' vc') := ⟨by rw [List.flatMap_append]; exact hown, fun g e => hblk.elim (fun q => HA.out.new g (q ▸ e)) (fun q => by have := q g e; have := HG.out.size; have := gA.size; omega)⟩
        clear hown hgrow hblk gA kA hL HSr HA HB HG
        go_wp2_with fail
        go_roundw
        case rel => exact ⟨k + 1, n, acc ++ [(s[k]'hlt)], vo', vc', by omega, by omega, by omega, by simp; omega, (by simp; try omega), (by first | rfl | trivial | simp), HA3.out, HB3.out, HG3.out, HE.out⟩
        case measure => simp [intOf]; omega
      have hpB : plainB (s[k]'hlt) = false := by unfold plainB; simpa using hpl
      have h92 : ¬ (s[k]'hlt) = 92 := fun h => hpl (by rw [h]; decide)
      have HE : Hid (R = .error k) := by show R = _; rw [← HS1.out, if_neg h34, if_neg h92, if_neg (by rw [hpB]; decide)]
      by_cases p1 : ((s[k]'hlt).toNat : Int) < 32
      · clear h34 h92 hpB hpl HS1
        have u0 := frz HB.out.rb 0
        have v0 : wr.cell? ⟨b, 0, none⟩ = some (.int .i64 0) := by simp [World.cell?, HB.out.rb]
        have u1 := frz HB.out.rb 1
        have v1 : wr.cell? ⟨b, 1, none⟩ = some (.string ⟨#[]⟩) := by simp [World.cell?, HB.out.rb]
        have u2 := frz HB.out.rb 2
        have v2 : wr.cell? ⟨b, 2, none⟩ = some (.int .i64 0) := by simp [World.cell?, HB.out.rb]
        have u3 := frz HB.out.rb 3
        have v3 : wr.cell? ⟨b, 3, none⟩ = some (.int .i64 0) := by simp [World.cell?, HB.out.rb]
        have u4 := frz HB.out.rb 4
        have v4 : wr.cell? ⟨b, 4, none⟩ = some (.int .i64 0) := by simp [World.cell?, HB.out.rb]
        have f0 := frz HB.out.tb 0
        have s0 : wr.cell? ⟨b + 1, 0, none⟩ = some (.int .i64 3) := by simp [World.cell?, HB.out.tb]
        have f1 := frz HB.out.tb 1
        have s1 : wr.cell? ⟨b + 1, 1, none⟩ = some (.string ⟨#[]⟩) := by simp [World.cell?, HB.out.tb]
        have f2 := frz HB.out.tb 2
        have s2 : wr.cell? ⟨b + 1, 2, none⟩ = some (.int .i64 (a : Int)) := by simp [World.cell?, HB.out.tb]
        have f3 := frz HB.out.tb 3
        have s3 : wr.cell? ⟨b + 1, 3, none⟩ = some (.int .i64 0) := by simp [World.cell?, HB.out.tb]
        have f4 := frz HB.out.tb 4
        have s4 : wr.cell? ⟨b + 1, 4, none⟩ = some (.int .i64 (-1)) := by simp [World.cell?, HB.out.tb]
        have n1 : ¬ b + 1 = b := by omega
        have n2 : ¬ b = b + 1 := by omega
        go_wp2_with fail
        obtain ⟨hb3, k3⟩ := tok_fault (o := k) HB.out
        (try simp only [Exit.inBlock, Exit.then])
        exact bodyPost_ret (results_cell64 rfl rfl hb3 (by kernel_rfl)) rfl (QtQ.err (HG.out.trans k3 fun z hz h => by have := Hb.out; omega) HE.out)
      have p2 : (126 : Int) < ((s[k]'hlt).toNat : Int) := by omega
      clear h34 h92 hpB hpl HS1
      have u0 := frz HB.out.rb 0
      have v0 : wr.cell? ⟨b, 0, none⟩ = some (.int .i64 0) := by simp [World.cell?, HB.out.rb]
      have u1 := frz HB.out.rb 1
      have v1 : wr.cell? ⟨b, 1, none⟩ = some (.string ⟨#[]⟩) := by simp [World.cell?, HB.out.rb]
      have u2 := frz HB.out.rb 2
      have v2 : wr.cell? ⟨b, 2, none⟩ = some (.int .i64 0) := by simp [World.cell?, HB.out.rb]
      have u3 := frz HB.out.rb 3
      have v3 : wr.cell? ⟨b, 3, none⟩ = some (.int .i64 0) := by simp [World.cell?, HB.out.rb]
      have u4 := frz HB.out.rb 4
      have v4 : wr.cell? ⟨b, 4, none⟩ = some (.int .i64 0) := by simp [World.cell?, HB.out.rb]
      have f0 := frz HB.out.tb 0
      have s0 : wr.cell? ⟨b + 1, 0, none⟩ = some (.int .i64 3) := by simp [World.cell?, HB.out.tb]
      have f1 := frz HB.out.tb 1
      have s1 : wr.cell? ⟨b + 1, 1, none⟩ = some (.string ⟨#[]⟩) := by simp [World.cell?, HB.out.tb]
      have f2 := frz HB.out.tb 2
      have s2 : wr.cell? ⟨b + 1, 2, none⟩ = some (.int .i64 (a : Int)) := by simp [World.cell?, HB.out.tb]
      have f3 := frz HB.out.tb 3
      have s3 : wr.cell? ⟨b + 1, 3, none⟩ = some (.int .i64 0) := by simp [World.cell?, HB.out.tb]
      have f4 := frz HB.out.tb 4
      have s4 : wr.cell? ⟨b + 1, 4, none⟩ = some (.int .i64 (-1)) := by simp [World.cell?, HB.out.tb]
      have n1 : ¬ b + 1 = b := by omega
      have n2 : ¬ b = b + 1 := by omega
      go_wp2_with fail
      obtain ⟨hb3, k3⟩ := tok_fault (o := k) HB.out
      (try simp only [Exit.inBlock, Exit.then])
      exact bodyPost_ret (results_cell64 rfl rfl hb3 (by kernel_rfl)) rfl (QtQ.err (HG.out.trans k3 fun z hz h => by have := Hb.out; omega) HE.out)
    have hsz : k = s.size := by omega
    have hltI : ¬ (k : Int) < (s.size : Int) := by omega
    have HE : Hid (R = .error s.size) := by show R = _; rw [← HS.out, hsz, quoP]; exact Pr.bind_err (next_end [])
    clear hsz
    have u0 := frz HB.out.rb 0
    have v0 : wr.cell? ⟨b, 0, none⟩ = some (.int .i64 0) := by simp [World.cell?, HB.out.rb]
    have u1 := frz HB.out.rb 1
    have v1 : wr.cell? ⟨b, 1, none⟩ = some (.string ⟨#[]⟩) := by simp [World.cell?, HB.out.rb]
    have u2 := frz HB.out.rb 2
    have v2 : wr.cell? ⟨b, 2, none⟩ = some (.int .i64 0) := by simp [World.cell?, HB.out.rb]
    have u3 := frz HB.out.rb 3
    have v3 : wr.cell? ⟨b, 3, none⟩ = some (.int .i64 0) := by simp [World.cell?, HB.out.rb]
    have u4 := frz HB.out.rb 4
    have v4 : wr.cell? ⟨b, 4, none⟩ = some (.int .i64 0) := by simp [World.cell?, HB.out.rb]
    have f0 := frz HB.out.tb 0
    have s0 : wr.cell? ⟨b + 1, 0, none⟩ = some (.int .i64 3) := by simp [World.cell?, HB.out.tb]
    have f1 := frz HB.out.tb 1
    have s1 : wr.cell? ⟨b + 1, 1, none⟩ = some (.string ⟨#[]⟩) := by simp [World.cell?, HB.out.tb]
    have f2 := frz HB.out.tb 2
    have s2 : wr.cell? ⟨b + 1, 2, none⟩ = some (.int .i64 (a : Int)) := by simp [World.cell?, HB.out.tb]
    have f3 := frz HB.out.tb 3
    have s3 : wr.cell? ⟨b + 1, 3, none⟩ = some (.int .i64 0) := by simp [World.cell?, HB.out.tb]
    have f4 := frz HB.out.tb 4
    have s4 : wr.cell? ⟨b + 1, 4, none⟩ = some (.int .i64 (-1)) := by simp [World.cell?, HB.out.tb]
    have n1 : ¬ b + 1 = b := by omega
    have n2 : ¬ b = b + 1 := by omega
    go_wp2_with fail
    obtain ⟨hb3, k3⟩ := tok_fault (o := s.size) HB.out
    (try simp only [Exit.inBlock, Exit.then])
    exact bodyPost_ret (results_cell64 rfl rfl hb3 (by kernel_rfl)) rfl (QtQ.err (HG.out.trans k3 fun z hz h => by have := Hb.out; omega) HE.out)
end Go.Proofs.YtkodgneneiledaaGreatDoor.Kit
