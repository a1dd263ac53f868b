import Derived.Test.YtomlndoffoeaiaaInkA
namespace Go.Proofs.Ytomlndoffoeaiaa.Kit
open Go.RowKit Go.Deep

def wideB (n : Int) : Bool := n == 1 || n == 2 || n == 4 || n == 8
theorem wideB_iff (n : Int) : wideB n = true ↔ n = 1 ∨ n = 2 ∨ n = 4 ∨ n = 8 := by simp [wideB, or_assoc]
theorem ret_bool {a b : Bool} (h : a = b) : Ending.returned (.bool a) = .returned (.bool b) := by rw [h]

theorem isWidth_any (n : Int) (w : World) : Calls Try.prog 51 #[.int .i64 n] w fun e w' => e = .returned (.bool (wideB n)) ∧ w = w' := by
  by_cases h1 : n = 1
  · subst h1; go_enter Try.func51, Try.ntmps51; go_wp2; go_ret; exact ⟨rfl, rfl⟩
  by_cases h2 : n = 2
  · subst h2; go_enter Try.func51, Try.ntmps51; go_wp2; go_ret; exact ⟨rfl, rfl⟩
  by_cases h4 : n = 4
  · subst h4; go_enter Try.func51, Try.ntmps51; go_wp2; go_ret; exact ⟨rfl, rfl⟩
  by_cases h8 : n = 8
  · subst h8; go_enter Try.func51, Try.ntmps51; go_wp2; go_ret; exact ⟨rfl, rfl⟩
  have g1 : (n == 1) = false := by simpa using h1
  have g2 : (n == 2) = false := by simpa using h2
  have g4 : (n == 4) = false := by simpa using h4
  have g8 : (n == 8) = false := by simpa using h8
  have e : Hid (false = wideB n) := by show _ = _; simp [wideB, g1, g2, g4, g8]
  go_enter Try.func51, Try.ntmps51; go_wp2; go_ret; exact ⟨ret_bool e.out, rfl⟩

theorem InkDone.trans {a b c : World} {ty p : Nat} {go go1 : Option Nat} {most : Int} {bs2 : List Int} (hk : Keeps a b (fun k => k = p ∨ go = some k)) (hg : go1 = go ∨ ∀ g, go1 = some g → a.heap.size ≤ g)
    (h : InkDone b c ty p go1 most bs2) : InkDone a c ty p go most bs2 := by
  obtain ⟨go2, i2, k2, g2⟩ := h
  refine ⟨go2, i2, hk.trans k2 ?_, ?_⟩
  · intro j hj h
    rcases h with h | h
    · exact .inl h
    · rcases hg with e | e
      · exact .inr (e ▸ h)
      · have := e j h; omega
  · rcases g2 with e | e
    · subst e; exact hg
    · exact .inr fun g h => Nat.le_trans hk.size (e g h)

/-- the lowest k bytes of x, the lowest first -/
def leB (x : Int) (k : Nat) : List Int := (List.range k).map fun i => x / 256 ^ i % 256
theorem leB_succ (x : Int) (k : Nat) : leB x (k + 1) = leB x k ++ [x / 256 ^ k % 256] := by simp [leB, List.range_succ]
theorem leB_length (x : Int) (k : Nat) : (leB x k).length = k := by simp [leB]

theorem u8_wrap (y : Int) : IntKind.u8.wrap y = y % 256 := by simp [IntKind.wrap, IntKind.bits, IntKind.signed]
theorem shr8 (x : Int) (k : Nat) (hk : k < 8) : Op.shift BinOp.shr IntKind.u64 x IntKind.i64 (IntKind.i64.wrap (8 * (k : Int))) = pure (.int .u64 (x / 256 ^ k)) := by
  have e : IntKind.i64.wrap (8 * (k : Int)) = 8 * (k : Int) := by rw [IntKind.wrap_i64]; omega
  rw [e, shift_shr_any _ _ _ _ (by omega)]
  have e2 : (2 : Int) ^ min ((8 * (k : Int)).toNat) IntKind.u64.bits = 256 ^ k := by
    have : min ((8 * (k : Int)).toNat) IntKind.u64.bits = 8 * k := by
      have hb : IntKind.u64.bits = 64 := rfl
      rw [hb]; omega
    rw [this, Int.pow_mul]; rfl
  rw [e2]

/-- an ink whose list is written out, hidden from the walk -/
def InkForm (w : World) (ty p : Nat) (go : Option Nat) (most : Int) (bs : List Int) (ao : Option Addr) (cap : Nat) : Prop :=
  w.heap[p]? = some (.cells #[.slice ao bs.length cap, .int .i64 most] ty (0, 0)) ∧ w.ownsRow 0 5 1 (.slice ao bs.length cap) bs.length (bs.map (Value.int .u8)) ∧ (Value.slice ao bs.length cap).ownBlock = go

theorem InkAt.open {w : World} {ty p : Nat} {go : Option Nat} {most : Int} {bs : List Int} (h : InkAt w ty p go most bs) :
    ∃ ao cap, Hid (InkForm w ty p go most bs ao cap) ∧ w.cell? ⟨p, 0, none⟩ = some (.slice ao bs.length cap) ∧ w.cell? ⟨p, 1, none⟩ = some (.int .i64 most) ∧ w.frozen? ⟨p, 0, none⟩ = false := by
  obtain ⟨ao, cap, a, b, c, d, e, f⟩ := h.form
  exact ⟨ao, cap, ⟨a, b, c⟩, d, e, f⟩

/-- behind the block of what is appended, the append and its store -/
theorem InkForm.grown {w W w1 : World} {ty p : Nat} {go : Option Nat} {most : Int} {bs : List Int} {ao : Option Addr} {cap : Nat} (hf : InkForm w ty p go most bs ao cap) (hty : ty ≠ 5) (hW : Keeps w W (fun _ => False))
    (news : List Int) {v' : Value} {n' : Nat} {xs' : List Value} (hown' : w1.ownsRow 0 5 1 v' n' xs') (hn : n' = (bs ++ news).length) (hx : xs' = (bs ++ news).map (Value.int .u8))
    (hgrow : W.grownBy w1 (Value.slice ao bs.length cap).ownBlock) (hblk : v'.ownBlock = (Value.slice ao bs.length cap).ownBlock ∨ ∀ g, v'.ownBlock = some g → W.heap.size ≤ g) :
    w1.cell? ⟨p, 0, none⟩ = some (.slice ao bs.length cap) ∧ w1.frozen? ⟨p, 0, none⟩ = false ∧ InkDone w (w1.setCell ⟨p, 0, none⟩ v') ty p go most (bs ++ news) := by
  obtain ⟨hh, ho, hg⟩ := hf
  subst hn hx
  have hI : InkAt W ty p go most bs := InkAt.kept ⟨_, hh, ho, hg⟩ hW id (fun _ _ => id)
  have hh' : W.heap[p]? = some (.cells #[.slice ao bs.length cap, .int .i64 most] ty (0, 0)) := by
    rw [hW.block p (Array.getElem?_eq_some_iff.1 hh).1 id]; exact hh
  have ho' : W.ownsRow 0 5 1 (.slice ao bs.length cap) bs.length (bs.map (Value.int .u8)) := by
    obtain ⟨v, hv, hown, _⟩ := hI
    rw [hh'] at hv
    simp at hv
    rw [← hv] at hown
    exact hown
  obtain ⟨c, f, i, k⟩ := InkAt.stored (w := W) (bs := bs) (bs' := bs ++ news) hty hh' ho' hown' hgrow
  subst hg
  refine ⟨c, f, InkDone.trans (b := W) (go1 := (Value.slice ao bs.length cap).ownBlock) (hW.mono fun _ _ h => h.elim) (.inl rfl) ⟨_, i, k, hblk⟩⟩

theorem Keeps.none_alloc_drew (w : World) (o : Obj) : Keeps w (w.alloc o).drew (fun _ => False) := ((Keeps.refl w _).alloc o).drew
theorem own_alloc_drew {w : World} {v : Value} {n : Nat} {xs : List Value} (h : w.ownsRow 0 5 1 v n xs) (o : Obj) : (w.alloc o).drew.ownsRow 0 5 1 v n xs := h.alloc o
theorem src_one_drew (w : World) (u : Value) (hu : u.oneCell' = true) : Src Try.prog 1 22 (.slice (some ⟨w.heap.size, 0, none⟩) 1 1) 1 [u] (w.alloc (.cells #[u] 5)).drew := by
  refine Src.ofSlice _ Try.underlying22 _ _ _ _ (by simp) ?_ (by simpa using hu)
  intro j v hj
  match j, hj with
  | 0, hj => simp at hj; subst hj; simp [Addr.add]
theorem src_one (w : World) (u : Value) (hu : u.oneCell' = true) : Src Try.prog 1 22 (.slice (some ⟨w.heap.size, 0, none⟩) 1 1) 1 [u] (w.alloc (.cells #[u] 5)) := by
  refine Src.ofSlice _ Try.underlying22 _ _ _ _ (by simp) ?_ (by simpa using hu)
  intro j v hj
  match j, hj with
  | 0, hj => simp at hj; subst hj; simp [Addr.add]

set_option maxRecDepth 100000 in
set_option maxHeartbeats 1000000 in
theorem number_yes (p : Nat) (go : Option Nat) (most : Int) (bs : List Int) (x : Int) (width : Nat) (w : World) (hI : InkAt w 115 p go most bs) (hm : 0 ≤ most) (hm' : most ≤ 16777216) (hfit : (bs.length : Int) + width ≤ most)
    (hw8 : width ≤ 8) (hwide : wideB width = true) :
    Calls Try.prog 22 #[.pointer (some ⟨p, 0, none⟩), .int .u64 x, .int .i64 width] w fun e w' => e = .returned (.int .i64 0) ∧ InkDone w w' 115 p go most (bs ++ leB x width) := by
  obtain ⟨ao, cap, HF, h0, h1, hf⟩ := hI.open
  have hd : decide ((width : Int) ≤ most - (bs.length : Int)) = true := by simp; omega
  have HI : Hid (InkAt w 115 p go most bs) := hI
  clear hI
  go_enter Try.func22, Try.ntmps22
  go_wp2_with (first | (go_at_call 51; refine (isWidth_any _ _).mono ?_; rintro e w' ⟨rfl, rfl⟩) | (go_at_call 54; refine (takes_any p ao bs.length cap most _ _ h0 h1 hm hm' (by omega)).mono ?_; rintro e w' ⟨rfl, q, rfl⟩))
  go_loopw [16] (fun i wr => ∃ k : Nat, k ≤ width ∧ i = .int .i64 k ∧ Hid (InkDone w wr 115 p go most (bs ++ leB x k))) (fun i _ => width - (intOf i).toNat)
  case atStart => exact ⟨0, Nat.zero_le _, rfl, by have := InkDone.same HI.out q; show InkDone _ _ _ _ _ _ _; simpa [leB] using this⟩
  case round =>
    clear h0 h1 hf hd HF HI
    obtain ⟨k, hk, rfl, HD⟩ := hrel
    by_cases hlt : k < width
    · obtain ⟨go1, i1, k1, g1⟩ := HD.out
      have HK : Hid (Keeps w wr (fun k => k = p ∨ go = some k) ∧ (go1 = go ∨ ∀ g, go1 = some g → w.heap.size ≤ g)) := ⟨k1, g1⟩
      obtain ⟨L, hL⟩ : ∃ L, L = bs ++ leB x k := ⟨_, rfl⟩
      rw [← hL] at i1
      have hNb : (L.length : Int) + (width - k) ≤ most := by rw [hL]; simp [leB_length]; omega
      have HL : Hid (L = bs ++ leB x k) := hL
      obtain ⟨ao, cap, HF, h0, h1, hf⟩ := i1.open
      obtain ⟨y, hy⟩ : ∃ y, y = x / 256 ^ k := ⟨_, rfl⟩
      have hsh : Op.shift BinOp.shr IntKind.u64 x IntKind.i64 (IntKind.i64.wrap (8 * (k : Int))) = pure (.int .u64 y) := by rw [hy]; exact shr8 x k (by omega)
      have HY : Hid (y = x / 256 ^ k) := hy
      have h0a : ∀ o, (wr.alloc o).cell? ⟨p, 0, none⟩ = some (.slice ao L.length cap) := fun o => (((Keeps.refl wr (fun _ => False)).alloc o).cell i1.lt.1 id).trans h0
      clear hy i1 k1 g1 HD hL
      go_wp2
      go_region_law (refine step_append_any _ rfl (.tmp 23) (.tmp 29) 22 22 rfl 5 (.int .u8 0) 1 Try.underlying22 info5 rfl _ _ _ rfl (own_alloc_drew HF.out.2.1 _) _ _ _ rfl (src_one_drew wr _ rfl) (by omega) (by omega) ?_; intro v' w1 hown' hgrow hblk; obtain ⟨ao', cap', rfl⟩ := own_form hown'; obtain ⟨c1, f1, D⟩ := InkForm.grown HF.out (by decide) (Keeps.none_alloc_drew wr _) [IntKind.u8.wrap y] hown' (by simp) (by simp) hgrow hblk; have DD : Hid (InkDone wr _ 115 p go1 most (L ++ [IntKind.u8.wrap y])) := D; clear D hown' hgrow hblk)
      all_goals
        go_wp2
        go_roundw
        case rel =>
          refine ⟨k + 1, by omega, by go_num, ?_⟩
          show InkDone _ _ _ _ _ _ _
          have e : bs ++ leB x (k + 1) = L ++ [IntKind.u8.wrap y] := by rw [leB_succ, HL.out, HY.out, u8_wrap]; simp
          rw [e]
          exact InkDone.trans HK.out.1 HK.out.2 DD.out
        case measure => simp [intOf]; omega
    · obtain rfl : k = width := by omega
      go_wp2
      go_ret
      exact ⟨rfl, HD.out⟩

theorem number_arg (p : Nat) (x width : Int) (w : World) (hwide : wideB width = false) :
    Calls Try.prog 22 #[.pointer (some ⟨p, 0, none⟩), .int .u64 x, .int .i64 width] w fun e w' => e = .returned (.int .i64 1) ∧ w = w' := by
  go_enter Try.func22, Try.ntmps22
  go_wp2_with (first | (go_at_call 51; refine (isWidth_any _ _).mono ?_; rintro e w' ⟨rfl, rfl⟩))
  go_ret
  exact ⟨rfl, rfl⟩

theorem number_no (p : Nat) (go : Option Nat) (most : Int) (bs : List Int) (x width : Int) (w : World) (hI : InkAt w 115 p go most bs) (hm : 0 ≤ most) (hm' : most ≤ 16777216) (hbs : bs.length ≤ 16777216) (hfit : most < (bs.length : Int) + width) (hwide : wideB width = true) :
    Calls Try.prog 22 #[.pointer (some ⟨p, 0, none⟩), .int .u64 x, .int .i64 width] w fun e w' => e = .returned (.int .i64 4) ∧ InkDone w w' 115 p go most bs := by
  obtain ⟨ao, cap, HF, h0, h1, hf⟩ := hI.open
  have HI : Hid (InkAt w 115 p go most bs) := hI
  have hd : decide (width ≤ most - (bs.length : Int)) = false := by simp; omega
  clear hI
  go_enter Try.func22, Try.ntmps22
  go_wp2_with (first | (go_at_call 51; refine (isWidth_any _ _).mono ?_; rintro e w' ⟨rfl, rfl⟩) | (go_at_call 54; refine (takes_any p ao bs.length cap most _ _ h0 h1 hm hm' hbs).mono ?_; rintro e w' ⟨rfl, q, rfl⟩))
  go_ret
  exact ⟨rfl, InkDone.same HI.out q⟩

theorem fill_arg (p : Nat) (n b : Int) (w : World) (hn : n < 0) :
    Calls Try.prog 28 #[.pointer (some ⟨p, 0, none⟩), .int .i64 n, .int .u8 b] w fun e w' => e = .returned (.int .i64 1) ∧ w = w' := by
  go_enter Try.func28, Try.ntmps28
  go_wp2
  go_ret
  exact ⟨rfl, rfl⟩

theorem fill_no (p : Nat) (go : Option Nat) (most : Int) (bs : List Int) (n b : Int) (w : World) (hI : InkAt w 115 p go most bs) (hm : 0 ≤ most) (hm' : most ≤ 16777216) (hbs : bs.length ≤ 16777216) (hn : 0 ≤ n) (hfit : most < (bs.length : Int) + n) :
    Calls Try.prog 28 #[.pointer (some ⟨p, 0, none⟩), .int .i64 n, .int .u8 b] w fun e w' => e = .returned (.int .i64 4) ∧ InkDone w w' 115 p go most bs := by
  obtain ⟨ao, cap, HF, h0, h1, hf⟩ := hI.open
  have HI : Hid (InkAt w 115 p go most bs) := hI
  have hd : decide (n ≤ most - (bs.length : Int)) = false := by simp; omega
  have hn' : ¬ n < 0 := by omega
  clear hI
  go_enter Try.func28, Try.ntmps28
  go_wp2_with (first | (go_at_call 54; refine (takes_any p ao bs.length cap most _ _ h0 h1 hm hm' hbs).mono ?_; rintro e w' ⟨rfl, q, rfl⟩))
  go_ret
  exact ⟨rfl, InkDone.same HI.out q⟩

theorem Keeps.none_alloc (w : World) (o : Obj) : Keeps w (w.alloc o) (fun _ => False) := (Keeps.refl w _).alloc o

set_option maxRecDepth 100000 in
set_option maxHeartbeats 1000000 in
theorem fill_yes (p : Nat) (go : Option Nat) (most : Int) (bs : List Int) (n : Nat) (b : Int) (w : World) (hI : InkAt w 115 p go most bs) (hm : 0 ≤ most) (hm' : most ≤ 16777216) (hfit : (bs.length : Int) + n ≤ most) :
    Calls Try.prog 28 #[.pointer (some ⟨p, 0, none⟩), .int .i64 n, .int .u8 b] w fun e w' => e = .returned (.int .i64 0) ∧ InkDone w w' 115 p go most (bs ++ List.replicate n b) := by
  obtain ⟨ao, cap, HF, h0, h1, hf⟩ := hI.open
  have hd : decide ((n : Int) ≤ most - (bs.length : Int)) = true := by simp; omega
  have HI : Hid (InkAt w 115 p go most bs) := hI
  clear hI
  go_enter Try.func28, Try.ntmps28
  go_wp2_with (first | (go_at_call 54; refine (takes_any p ao bs.length cap most _ _ h0 h1 hm hm' (by omega)).mono ?_; rintro e w' ⟨rfl, q, rfl⟩))
  go_loopw [14] (fun i wr => ∃ k : Nat, k ≤ n ∧ i = .int .i64 k ∧ Hid (InkDone w wr 115 p go most (bs ++ List.replicate k b))) (fun i _ => n - (intOf i).toNat)
  case atStart => exact ⟨0, Nat.zero_le _, rfl, by have := InkDone.same HI.out q; show InkDone _ _ _ _ _ _ _; simpa using this⟩
  case round =>
    clear h0 h1 hf hd HF HI
    obtain ⟨k, hk, rfl, HD⟩ := hrel
    by_cases hlt : k < n
    · obtain ⟨go1, i1, k1, g1⟩ := HD.out
      have HK : Hid (Keeps w wr (fun k => k = p ∨ go = some k) ∧ (go1 = go ∨ ∀ g, go1 = some g → w.heap.size ≤ g)) := ⟨k1, g1⟩
      obtain ⟨L, hL⟩ : ∃ L, L = bs ++ List.replicate k b := ⟨_, rfl⟩
      rw [← hL] at i1
      have hNb : (L.length : Int) + (n - k) ≤ most := by rw [hL]; simp; omega
      have HL : Hid (L = bs ++ List.replicate k b) := hL
      obtain ⟨ao, cap, HF, h0, h1, hf⟩ := i1.open
      have h0a : ∀ o, (wr.alloc o).cell? ⟨p, 0, none⟩ = some (.slice ao L.length cap) := fun o => (((Keeps.refl wr (fun _ => False)).alloc o).cell i1.lt.1 id).trans h0
      clear i1 k1 g1 HD hL
      go_wp2_with (first | (at_builtin; refine wpList_append_any _ rfl (.tmp 20) (.tmp 22) 22 22 rfl 5 (.int .u8 0) 1 Try.underlying22 info5 rfl _ _ _ rfl (HF.out.2.1.alloc _) _ _ _ rfl (src_one wr _ rfl) ?h63 ?hby ?_))
      case h63 => omega
      case hby => omega
      intro v' w1 hown' hgrow hblk
      obtain ⟨ao', cap', rfl⟩ := own_form hown'
      obtain ⟨c1, f1, D⟩ := InkForm.grown HF.out (by decide) (Keeps.none_alloc wr _) [b] hown' (by simp) (by simp) hgrow (by simpa using hblk)
      have DD : Hid (InkDone wr _ 115 p go1 most (L ++ [b])) := D
      clear D hown' hgrow hblk
      go_wp2
      go_roundw
      case rel =>
        refine ⟨k + 1, by omega, by go_num, ?_⟩
        show InkDone _ _ _ _ _ _ _
        have e : bs ++ List.replicate (k + 1) b = L ++ [b] := by rw [List.replicate_succ', HL.out]; simp
        rw [e]
        exact InkDone.trans HK.out.1 HK.out.2 DD.out
      case measure => simp [intOf]; omega
    · obtain rfl : k = n := by omega
      go_wp2
      go_ret
      exact ⟨rfl, HD.out⟩
end Go.Proofs.Ytomlndoffoeaiaa.Kit
