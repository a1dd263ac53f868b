import Derived.Test.YtdffjdlpbfcikaaDoorOC
import Derived.Deep.RegionHeld3
import Derived.Deep.RegionLaw
import Derived.Test.YtdffjdlpbfcikaaDoorRK
namespace Go.Proofs.YtdffjdlpbfcikaaDoor.Kit
open Go.RowKit Go.Shelf Go.Deep
set_option linter.unusedVariables false
attribute [local go_sem] run_store_func

/-! ### the document's reader: it goes on behind what is wrong, and takes nothing more -/
structure DS where
  a : Nat
  g : Nat
  e : Int
  f : Nat
structure DAt (W : World) (p : Nat) (bo : Option Addr) (B : List UInt8) (bc : Nat) (s : DS) : Prop where
  box : W.heap[p]? = some (.cells #[.slice bo B.length bc, .int .i64 (s.a : Int), .int .i64 (s.g : Int), .int .i64 s.e, .slice none 0 0, .int .i64 (s.f : Int)] 52 (0, 0))
  bytes : BytesAt W bo B
  form : B.length ≤ bc ∧ bc ≤ 9223372036854775807 ∧ (bo = none ∧ bc = 0 ∨ ∃ b o, bo = some ⟨b, o, none⟩)
  ne : ∀ b o, bo = some ⟨b, o, none⟩ → b ≠ p
  len : B.length ≤ 1000000000000
  pos : s.a ≤ B.length
  few : s.g ≤ 257
theorem DAt.lt {W : World} {p : Nat} {bo : Option Addr} {B : List UInt8} {bc : Nat} {s : DS} (h : DAt W p bo B bc s) : p < W.heap.size := lt_of_heap h.box
theorem DAt.gr {W W' : World} {p : Nat} {bo : Option Addr} {B : List UInt8} {bc : Nat} {s : DS} (h : DAt W p bo B bc s) (k : Gr W W') : DAt W' p bo B bc s :=
  ⟨(k.block p h.lt id).trans h.box, h.bytes.gr k, h.form, h.ne, h.len, h.pos, h.few⟩
theorem DAt.cells {W : World} {p : Nat} {bo : Option Addr} {B : List UInt8} {bc : Nat} {s : DS} (h : DAt W p bo B bc s) : W.cell? ⟨p, 0, none⟩ = some (.slice bo B.length bc) ∧ W.cell? ⟨p, 1, none⟩ = some (.int .i64 (s.a : Int)) ∧ W.cell? ⟨p, 2, none⟩ = some (.int .i64 (s.g : Int)) ∧ W.cell? ⟨p, 3, none⟩ = some (.int .i64 s.e) ∧ W.cell? ⟨p, 4, none⟩ = some (.slice none 0 0) ∧ W.cell? ⟨p, 5, none⟩ = some (.int .i64 (s.f : Int)) := by simp [World.cell?, h.box]
theorem DAt.wrong {W : World} {p : Nat} {bo : Option Addr} {B : List UInt8} {bc : Nat} {s : DS} (h : DAt W p bo B bc s) (e : Int) (k : Nat) : DAt (((W.setCell ⟨p, 3, none⟩ (.int .i64 e)).setCell ⟨p, 4, none⟩ (.slice none 0 0)).setCell ⟨p, 5, none⟩ (.int .i64 (k : Int))) p bo B bc { s with e := e, f := k } := by
  have kp : Keeps W (((W.setCell ⟨p, 3, none⟩ (.int .i64 e)).setCell ⟨p, 4, none⟩ (.slice none 0 0)).setCell ⟨p, 5, none⟩ (.int .i64 (k : Int))) (fun z => z = p) := (((Keeps.refl W (fun z => z = p)).setCell (p := ⟨p, 3, none⟩) (fun _ => rfl) _).setCell (p := ⟨p, 4, none⟩) (fun _ => rfl) _).setCell (p := ⟨p, 5, none⟩) (fun _ => rfl) _
  refine ⟨?_, h.bytes.kp (p := p) kp h.ne, h.form, h.ne, h.len, h.pos, h.few⟩
  have h0 := heap_setCell_same W p 3 _ _ (.int .i64 e) h.box
  have h1 := heap_setCell_same _ p 4 _ _ (.slice none 0 0) h0
  have h2 := heap_setCell_same _ p 5 _ _ (.int .i64 (k : Int)) h1
  rw [h2]
  simp
theorem DAt.at_ {W : World} {p : Nat} {bo : Option Addr} {B : List UInt8} {bc : Nat} {s : DS} (h : DAt W p bo B bc s) {a' : Nat} (ha : a' ≤ B.length) : DAt (W.setCell ⟨p, 1, none⟩ (.int .i64 (a' : Int))) p bo B bc { s with a := a' } := by
  refine ⟨?_, h.bytes.kp (p := p) ((Keeps.refl W (fun z => z = p)).setCell (p := ⟨p, 1, none⟩) (fun _ => rfl) _) h.ne, h.form, h.ne, h.len, ha, h.few⟩
  rw [heap_setCell_same W p 1 _ _ _ h.box]
  simp
theorem DAt.more {W : World} {p : Nat} {bo : Option Addr} {B : List UInt8} {bc : Nat} {s : DS} (h : DAt W p bo B bc s) (hg : s.g < 257) : DAt (W.setCell ⟨p, 2, none⟩ (.int .i64 ((s.g + 1 : Nat) : Int))) p bo B bc { s with g := s.g + 1 } := by
  refine ⟨?_, h.bytes.kp (p := p) ((Keeps.refl W (fun z => z = p)).setCell (p := ⟨p, 2, none⟩) (fun _ => rfl) _) h.ne, h.form, h.ne, h.len, h.pos, hg⟩
  rw [heap_setCell_same W p 2 _ _ _ h.box]
  simp
/-- what a function of the reader does, right or wrong -/
def DC {α : Type} (p : Nat) (bo : Option Addr) (B : List UInt8) (bc : Nat) (F : Nat) (args : Array Value) (r : DS → α × DS) (V : World → World → α → Value → Prop) : Prop :=
  ∀ W s, DAt W p bo B bc s → Calls Tryd.prog F args W fun e w' => ∃ v, e = .returned v ∧ V W w' (r s).1 v ∧ DAt w' p bo B bc (r s).2 ∧ Keeps W w' (fun z => z = p)
def takeX (B : List UInt8) (n : Nat) (s : DS) : List UInt8 × DS :=
  if s.e ≠ 0 then ([], s) else if B.length < s.a + n then ([], { s with e := 51, f := s.a }) else ((B.drop s.a).take n, { s with a := s.a + n })
set_option maxRecDepth 100000 in
theorem wrong19 {p : Nat} {bo : Option Addr} {B : List UInt8} {bc : Nat} {W : World} {s : DS} (h : DAt W p bo B bc s) (hs : s.e = 0) (e : Int) (k : Nat) :
    Calls Tryd.prog 19 #[.pointer (some ⟨p, 0, none⟩), .int .i64 e, .int .i64 (k : Int)] W fun x w' => x = .returned (.tuple #[]) ∧ DAt w' p bo B bc { s with e := e, f := k } ∧ Keeps W w' (fun z => z = p) := by
  obtain ⟨c0, c1, c2, c3, c4, c5⟩ := h.cells
  have f3 := frz h.box 3
  have f4 := frz h.box 4
  have f5 := frz h.box 5
  rw [hs] at c3
  have HD := hidM (h.wrong e k)
  have kp : Keeps W (((W.setCell ⟨p, 3, none⟩ (.int .i64 e)).setCell ⟨p, 4, none⟩ (.slice none 0 0)).setCell ⟨p, 5, none⟩ (.int .i64 (k : Int))) (fun z => z = p) := (((Keeps.refl W (fun z => z = p)).setCell (p := ⟨p, 3, none⟩) (fun _ => rfl) _).setCell (p := ⟨p, 4, none⟩) (fun _ => rfl) _).setCell (p := ⟨p, 5, none⟩) (fun _ => rfl) _
  have HK := hidM kp
  clear h kp hs
  go_enter Tryd.func19, Tryd.ntmps19
  go_wp2
  go_end0
  exact ⟨rfl, HD.out, HK.out⟩
theorem slice_mid {W : World} {b o n cap a m : Nat} {l : List UInt8} (h : BytesAt W (some ⟨b, o, none⟩) l) : BytesAt W (some ⟨b, o + a, none⟩) ((l.drop a).take m) := fun hn => by
  have hl : l ≠ [] := fun e => by rw [e] at hn; simp at hn
  obtain ⟨b', o', e, hc⟩ := h hl
  cases e
  refine ⟨b, o + a, rfl, fun i hi => ?_⟩
  simp at hi
  have := hc (a + i) (by omega)
  rw [Nat.add_assoc, this]
  simp
def TkV (W w' : World) (l : List UInt8) (v : Value) : Prop := ∃ lo lc, v = .slice lo l.length lc ∧ BytesAt w' lo l
set_option maxRecDepth 100000 in
set_option maxHeartbeats 2000000 in
theorem take32 (p : Nat) (bo : Option Addr) (B : List UInt8) (bc n : Nat) (hn : n ≤ 4294967296) : DC p bo B bc 32 #[.pointer (some ⟨p, 0, none⟩), .int .i64 (n : Int)] (takeX B n) TkV := by
  intro W s h
  obtain ⟨c0, c1, c2, c3, c4, c5⟩ := h.cells
  have hp := h.pos
  have hl := h.len
  have HW := hidM h
  unfold takeX
  by_cases he : s.e = 0
  · rw [if_neg (by simp [he])]
    obtain ⟨m, hm⟩ : ∃ m, m = B.length := ⟨_, rfl⟩
    obtain ⟨a, ha⟩ : ∃ a, a = s.a := ⟨_, rfl⟩
    rw [← hm] at c0 hp hl
    rw [← ha] at c1 hp
    rw [he] at c3
    have Hm := hidM hm
    have Ha := hidM ha
    have He := hidM he
    have HC : Hid (W.drew.cell? ⟨p, 0, none⟩ = some (.slice bo m bc) ∧ W.drew.cell? ⟨p, 1, none⟩ = some (.int .i64 (a : Int))) := ⟨c0, c1⟩
    have HQd : Hid (Gr W W.drew) := (Keeps.refl W (fun _ => False)).drew
    have HQ2 : Hid (Gr W W.drew.drew) := HQd.out.drew
    have hwr : IntKind.i64.wrap ((m : Int) - (a : Int)) = (m : Int) - (a : Int) := by rw [IntKind.wrap_i64]; omega
    by_cases hs : B.length < s.a + n
    · rw [if_pos hs]
      have hgt : (m : Int) - (a : Int) < (n : Int) := by rw [Hm.out, Ha.out]; omega
      clear h hm ha he hs
      go_enter Tryd.func32, Tryd.ntmps32
      go_wp2
      go_region_held3 (fun w' => w'.cell? ⟨p, 0, none⟩ = some (.slice bo m bc) ∧ w'.cell? ⟨p, 1, none⟩ = some (.int .i64 (a : Int))) (go_keep) (fail)
      all_goals
        go_wp2_with (go_at_call 19; refine Hid.out ?_)
        unfold Hid
        refine Calls.mono (wrong19 (HW.out.gr HQd.out) He.out 51 a) ?_
        rintro e w' ⟨rfl, hD, hk⟩
        have HD := hidM hD
        have HK := hidM hk
        clear hD hk
        go_wp2_with fail
        go_ret
        rw [← Ha.out]
        rw [Ha.out] at HD
        exact ⟨_, rfl, ⟨none, 0, rfl, fun h => absurd rfl h⟩, by rw [Ha.out]; exact HD.out, (HQd.out.mono fun _ _ h => h.elim).trans HK.out (fun _ _ h => h)⟩
    · rw [if_neg hs]
      have hgt : ¬ (m : Int) - (a : Int) < (n : Int) := by rw [Hm.out, Ha.out]; omega
      have hwa : IntKind.i64.wrap ((a : Int) + (n : Int)) = (a : Int) + (n : Int) := by rw [IntKind.wrap_i64]; omega
      have hf := h.form
      have hb := h.bytes
      rw [← hm] at hf
      have hE : Hid (W.drew.ownsRow 0 5 1 (.slice none 0 0) 0 []) := World.ownsRow_nil _ _ _ _
      rcases hf.2.2 with ⟨rfl, hz⟩ | ⟨b, o, rfl⟩
      · have hm0 : m = 0 := by have := hf.1; omega
        have ha0 : a = 0 := by omega
        have hn0 : n = 0 := by rw [← hm, ← ha] at hs; omega
        subst hm0 ha0 hn0 hz
        have hsrc : Hid (∀ V, Src Tryd.prog 1 22 (.slice none 0 0) 0 [] V) := fun V => Src.ofNil (w := V) Tryd.underlying22 0
        clear h he hs hf hb hm ha hp hn hl hwr hwa hgt
        have hw0 : IntKind.i64.wrap 0 = 0 := rfl
        go_enter Tryd.func32, Tryd.ntmps32
        go_wp2
        go_region_held3 (fun w' => w'.cell? ⟨p, 0, none⟩ = some (.slice none 0 0) ∧ w'.cell? ⟨p, 1, none⟩ = some (.int .i64 ((0 : Nat) : Int))) (go_keep) (fail)
        all_goals go_wp2
        all_goals
          go_region_law (refine step_append_any _ rfl (.const (.slice none 0 0)) (.tmp 44) 22 22 rfl 5 (.int .u8 0) 1 Tryd.underlying22 info5 rfl _ 0 [] rfl (World.ownsRow_nil _ _ _ _) _ 0 [] rfl (hsrc.out _) (by omega) (by omega) ?_; intro v' w1 hown hgrow hblk; obtain ⟨ao', cap', rfl⟩ := own_form1 hown; have HO := hidM hown; have HGr := hidM hgrow; have HBk : Hid (∀ g, (Value.slice ao' (0 + 0) cap').ownBlock = some g → W.heap.size ≤ g) := fun g e => hblk.elim (fun q => by have h' : (none : Option Nat) = some g := q.symm.trans e; cases h') (fun q => Nat.le_trans HQ2.out.size (q g e)); clear hown hgrow hblk)
        all_goals
          have g1 : Gr W w1 := HQ2.out.trans (Keeps.ofGrown HGr.out) fun z _ h => by have h' : (none : Option Nat) = some z := h; cases h'
          have hD := HW.out.gr g1
          obtain ⟨d0, d1, d2, d3, d4, d5⟩ := hD.cells
          rw [← Ha.out] at d1
          have f1 := frz hD.box 1
          have HD := hidM (hD.at_ (a' := 0) (Nat.zero_le _))
          have HG1 := hidM g1
          clear g1 hD HO HGr hsrc
          go_wp2_with fail
          go_ret
          have kp := (Keeps.refl w1 (fun z => z = p)).setCell (p := ⟨p, 1, none⟩) (fun _ => rfl) (.int .i64 0)
          rw [← Ha.out]
          exact ⟨_, rfl, ⟨ao', cap', rfl, fun h => absurd (by simp) h⟩, HD.out, (HG1.out.mono fun _ _ h => h.elim).trans kp (fun _ _ h => h)⟩
      · obtain ⟨ad, had⟩ : ∃ ad, ad = if bc = a then (some ⟨b, o, none⟩ : Option Addr) else some ⟨b, o + a, none⟩ := ⟨_, rfl⟩
        have hsrc : Hid (∀ V c, Gr W V → Src Tryd.prog 1 22 (.slice ad n c) n (bv ((B.drop a).take n)) V) := fun V c gV => by
          have hlen : ((B.drop a).take n).length = n := by simp; rw [← Hm.out]; omega
          by_cases hba : bc = a
          · rw [if_pos hba] at had
            have hn0 : n = 0 := by have := hf.1; rw [← hm, ← ha] at hs; omega
            subst hn0
            rw [had]
            have := src_bytes (W := V) (bo := some ⟨b, o, none⟩) (bs := []) (cap := c) (fun h => absurd rfl h)
            simpa [bv] using this
          · rw [if_neg hba] at had
            rw [had]
            have := src_bytes (cap := c) (slice_mid (n := 0) (cap := 0) (a := a) (m := n) (hb.gr gV))
            rw [hlen] at this
            exact this
        have hlenT : Hid (((B.drop a).take n).length = n) := by show _ = _; simp; rw [← Hm.out]; rw [← hm, ← ha] at hs; omega
        have hadR := had.symm
        have hcap := hf.1
        have hs1 : (0 : Int) ≤ (a : Int) + (n : Int) := by omega
        have hs2 : (a : Int) + (n : Int) ≤ (bc : Int) := by rw [← hm] at hs; rw [← ha] at hs; omega
        have hs3 : ((a : Int) + (n : Int)).toNat = a + n := by omega
        have Hs : Hid (a + n ≤ m) := by rw [← hm, ← ha] at hs; show a + n ≤ m; omega
        clear h hm ha he hs hf hb had
        go_enter Tryd.func32, Tryd.ntmps32
        go_wp2
        go_region_held3 (fun w' => w'.cell? ⟨p, 0, none⟩ = some (.slice (some ⟨b, o, none⟩) m bc) ∧ w'.cell? ⟨p, 1, none⟩ = some (.int .i64 (a : Int))) (go_keep) (fail)
        all_goals go_wp2
        all_goals
          go_region_law (refine step_append_any _ rfl (.const (.slice none 0 0)) (.tmp 44) 22 22 rfl 5 (.int .u8 0) 1 Tryd.underlying22 info5 rfl _ 0 [] rfl (World.ownsRow_nil _ _ _ _) _ n (bv ((B.drop a).take n)) rfl (hsrc.out _ _ HQ2.out) (by omega) (by omega) ?_; intro v' w1 hown hgrow hblk; obtain ⟨ao', cap', rfl⟩ := own_form1 hown; have HO := hidM hown; have HGr := hidM hgrow; have HBk : Hid (∀ g, (Value.slice ao' (0 + n) cap').ownBlock = some g → W.heap.size ≤ g) := fun g e => hblk.elim (fun q => by have h' : (none : Option Nat) = some g := q.symm.trans e; cases h') (fun q => Nat.le_trans HQ2.out.size (q g e)); clear hown hgrow hblk)
        all_goals
          have hown := HO.out
          rw [Nat.zero_add, List.nil_append] at hown
          have g1 : Gr W w1 := HQ2.out.trans (Keeps.ofGrown HGr.out) fun z _ h => by have h' : (none : Option Nat) = some z := h; cases h'
          obtain ⟨lo, lc, hve, hlb, -, -⟩ := own_bytes hown hlenT.out.symm
          have hD := HW.out.gr g1
          obtain ⟨d0, d1, d2, d3, d4, d5⟩ := hD.cells
          rw [← Ha.out] at d1
          have f1 := frz hD.box 1
          have HD := hidM (hD.at_ (a' := a + n) (by rw [← Hm.out]; exact Hs.out))
          have HV : Hid (∃ V2, w1.setCell ⟨p, 1, none⟩ (.int .i64 ((a + n : Nat) : Int)) = V2) := ⟨_, rfl⟩
          have HG1 := hidM g1
          have HL := hidM (And.intro hve hlb)
          have hz : (((a + n : Nat) : Int)) = (a : Int) + (n : Int) := by omega
          rw [hz] at HD
          clear hown g1 hve hlb hD hz HV HO HGr hsrc
          go_wp2_with fail
          go_ret
          have ea := Ha.out
          have hne : ∀ c u, lo = some ⟨c, u, none⟩ → c ≠ p := fun c u e => by
            have h1 := HL.out.1
            rw [e] at h1
            have h2 := HBk.out c (by have h5 : (Value.slice ao' n cap').ownBlock = some c := by rw [h1]; rfl
                                     rw [Nat.zero_add]; exact h5)
            have h3 := HW.out.lt
            omega
          have kp := (Keeps.refl w1 (fun z => z = p)).setCell (p := ⟨p, 1, none⟩) (fun _ => rfl) (.int .i64 ((a : Int) + (n : Int)))
          rw [← ea]
          refine ⟨_, rfl, ⟨lo, lc, HL.out.1, HL.out.2.kp kp hne⟩, HD.out, (HG1.out.mono fun _ _ h => h.elim).trans kp (fun _ _ h => h)⟩
  · have he' : (s.e == 0) = false := by simp [he]
    rw [if_pos (by simpa using he)]
    clear h
    go_enter Tryd.func32, Tryd.ntmps32
    go_wp2
    go_ret
    exact ⟨_, rfl, ⟨none, 0, rfl, fun h => absurd rfl h⟩, HW.out, Keeps.refl _ _⟩
end Go.Proofs.YtdffjdlpbfcikaaDoor.Kit
namespace Go.Proofs.YtdffjdlpbfcikaaDoor.Kit
open Go.RowKit Go.Shelf Go.Deep
set_option linter.unusedVariables false
attribute [local go_sem] run_store_func

/-! ### number 17, within 15, text 31 of the document -/
def numX (B : List UInt8) (k : Nat) (s : DS) : Nat × DS := (leN (takeX B k s).1, (takeX B k s).2)
theorem takeX_len (B : List UInt8) (n : Nat) (s : DS) : (takeX B n s).1.length ≤ n := by
  unfold takeX
  split
  · simp
  · split
    · simp
    · simp; omega
theorem leN_drop {l : List UInt8} {j : Nat} (h : j < l.length) : leN (l.drop j) = 256 * leN (l.drop (j + 1)) + (l[j]).toNat := by
  rw [List.drop_eq_getElem_cons h, leN]
  omega
theorem leN_small {l : List UInt8} (h : l.length ≤ 4) (j : Nat) : leN (l.drop j) < 4294967296 := by
  have h1 := leN_lt (l.drop j)
  have h2 : (l.drop j).length ≤ 4 := by simp; omega
  have h3 : 256 ^ (l.drop j).length ≤ 256 ^ 4 := Nat.pow_le_pow_right (by decide) h2
  omega
set_option maxRecDepth 100000 in
set_option maxHeartbeats 2000000 in
theorem number17 (p : Nat) (bo : Option Addr) (B : List UInt8) (bc k : Nat) (hk : k ≤ 4) : DC p bo B bc 17 #[.pointer (some ⟨p, 0, none⟩), .int .i64 (k : Int)] (numX B k) (fun _ _ x v => v = .int .i64 (x : Int)) := by
  intro W s h
  have H := hidM (take32 p bo B bc k (by omega) W s h)
  have hlen := Nat.le_trans (takeX_len B k s) hk
  unfold numX
  obtain ⟨l, hl⟩ : ∃ l, l = (takeX B k s).1 := ⟨_, rfl⟩
  rw [← hl] at H hlen ⊢
  have HL : Hid (l.length ≤ 4) := hlen
  clear h hl
  go_enter Tryd.func17, Tryd.ntmps17
  go_wp2_with (go_at_call 32; refine Hid.out ?_)
  unfold Hid
  refine Calls.mono H.out ?_
  rintro e U ⟨v, rfl, ⟨lo, lc, rfl, hb⟩, hD, hK⟩
  have HB := hidM hb
  have HD := hidM hD
  have HK := hidM hK
  obtain ⟨n, hn⟩ : ∃ n, n = l.length := ⟨_, rfl⟩
  rw [← hn] at hlen ⊢
  have Hn := hidM hn
  have hw1 : IntKind.i64.wrap ((n : Int) - 1) = (n : Int) - 1 := by rw [IntKind.wrap_i64]; omega
  clear hb hD hK H hn
  go_wp2
  go_loopw [6, 7] (fun x i wr => ∃ j : Nat, j ≤ n ∧ i = .int .i64 ((j : Int) - 1) ∧ x = .int .i64 (leN (l.drop j) : Int) ∧ Hid (wr = U)) (fun _ i _ => (intOf i + 1).toNat)
  case atStart => exact ⟨n, Nat.le_refl _, rfl, by rw [Hn.out]; simp [leN], rfl⟩
  case round =>
    obtain ⟨j, hj, rfl, rfl, HW⟩ := hrel
    have hw := HW.out
    subst hw
    by_cases h0 : j = 0
    · subst h0
      have hng : ¬ (0 : Int) ≤ ((0 : Nat) : Int) - 1 := by omega
      obtain ⟨x, hx⟩ : ∃ x, x = leN (l.drop 0) := ⟨_, rfl⟩
      rw [← hx]
      have Hx := hidM hx
      clear hx
      go_wp2_with fail
      go_ret
      exact ⟨_, rfl, by rw [Hx.out, List.drop_zero]; rfl, HD.out, HK.out⟩
    · obtain ⟨i, rfl⟩ : ∃ i, j = i + 1 := ⟨j - 1, by omega⟩
      have hil : i < l.length := by have := Hn.out; omega
      have hpo : (0 : Int) ≤ ((i + 1 : Nat) : Int) - 1 := by omega
      have hpe : (((i + 1 : Nat) : Int) - 1).toNat = i := by omega
      obtain ⟨c, o, rfl, hc⟩ := HB.out (fun e => by rw [e] at hil; simp at hil)
      have hci := hc i hil
      obtain ⟨y, hy⟩ : ∃ y : Nat, y = (l[i]).toNat := ⟨_, rfl⟩
      rw [← hy] at hci
      have hyb : y < 256 := by rw [hy]; exact (l[i]).toNat_lt
      have hsm := leN_small HL.out (i + 1)
      have hstep := leN_drop hil
      obtain ⟨x, hx⟩ : ∃ x, x = leN (l.drop (i + 1)) := ⟨_, rfl⟩
      rw [← hx] at hsm hstep ⊢
      rw [← hy] at hstep
      have hm1 : IntKind.i64.wrap (256 * (x : Int)) = 256 * (x : Int) := by rw [IntKind.wrap_i64]; omega
      have hm2 : IntKind.i64.wrap (256 * (x : Int) + (y : Int)) = 256 * (x : Int) + (y : Int) := by rw [IntKind.wrap_i64]; omega
      have hm3 : IntKind.i64.wrap (y : Int) = (y : Int) := by rw [IntKind.wrap_i64]; omega
      have hm4 : IntKind.i64.wrap (((i + 1 : Nat) : Int) - 1 - 1) = ((i + 1 : Nat) : Int) - 1 - 1 := by rw [IntKind.wrap_i64]; omega
      have hbd : ((i + 1 : Nat) : Int) - 1 < (n : Int) := by omega
      have Hst := hidM hstep
      have hz : ((i + 1 : Nat) : Int) - 1 = (i : Int) := by omega
      rw [hz] at hpo hpe hm4 hbd ⊢
      clear hstep hx hc hy
      go_wp2_with fail
      go_roundw
      case rel => exact ⟨i, by omega, by simp, by rw [Hst.out]; simp, by first | exact rfl | (unfold Hid; trivial)⟩
      case measure => first | (simp [intOf]; done) | (simp [intOf]; omega)
def withX (B : List UInt8) (lo hi : Nat) (s : DS) : Nat × DS :=
  if (numX B 1 s).2.e = 0 ∧ ((numX B 1 s).1 < lo ∨ hi < (numX B 1 s).1) then ((numX B 1 s).1, { (numX B 1 s).2 with e := 8, f := s.a }) else numX B 1 s
set_option maxRecDepth 100000 in
set_option maxHeartbeats 2000000 in
theorem within15 (p : Nat) (bo : Option Addr) (B : List UInt8) (bc lo hi : Nat) : DC p bo B bc 15 #[.pointer (some ⟨p, 0, none⟩), .int .i64 (lo : Int), .int .i64 (hi : Int)] (withX B lo hi) (fun _ _ x v => v = .int .i64 (x : Int)) := by
  intro W s h
  have H := hidM (number17 p bo B bc 1 (by omega) W s h)
  obtain ⟨c0, c1, c2, c3, c4, c5⟩ := h.cells
  obtain ⟨r, hr⟩ : ∃ r, r = withX B lo hi s := ⟨_, rfl⟩
  rw [← hr]
  unfold withX at hr
  obtain ⟨q, hq⟩ : ∃ q, q = numX B 1 s := ⟨_, rfl⟩
  rw [← hq] at H hr
  obtain ⟨x, t⟩ := q
  obtain ⟨a, ha⟩ : ∃ a, a = s.a := ⟨_, rfl⟩
  rw [← ha] at c1 hr
  dsimp only at hr
  have HR := hidM hr
  clear h hq ha hr
  go_enter Tryd.func15, Tryd.ntmps15
  go_wp2_with (go_at_call 17; refine Hid.out ?_)
  unfold Hid
  refine Calls.mono H.out ?_
  rintro e U ⟨v, rfl, rfl, hD, hK⟩
  have HK := hidM hK
  have HD := hidM hD
  obtain ⟨d0, d1, d2, d3, d4, d5⟩ := hD.cells
  clear hD hK H c0 c1 c2 c3 c4 c5
  dsimp only at *
  by_cases he : t.e = 0
  · rw [he] at d3
    have He := hidM he
    by_cases hx : x < lo ∨ hi < x
    · have HE : Hid (r = (x, { t with e := 8, f := a })) := HR.out.trans (if_pos ⟨he, hx⟩)
      clear he HR
      by_cases hxl : x < lo
      · have hx1 : (x : Int) < (lo : Int) := by omega
        clear hx hxl
        go_wp2_with (go_at_call 19; refine Hid.out ?_)
        unfold Hid
        refine Calls.mono (wrong19 HD.out He.out 8 a) ?_
        rintro e V ⟨rfl, hV, hk⟩
        have HV := hidM hV
        have HKV := hidM (HK.out.trans hk (fun _ _ h => h))
        clear hV hk
        go_wp2_with fail
        go_ret
        rw [HE.out]
        exact ⟨_, rfl, rfl, HV.out, HKV.out⟩
      · have hx1 : ¬ (x : Int) < (lo : Int) := by omega
        have hx2 : (hi : Int) < (x : Int) := by omega
        clear hx hxl
        go_wp2_with (go_at_call 19; refine Hid.out ?_)
        unfold Hid
        refine Calls.mono (wrong19 HD.out He.out 8 a) ?_
        rintro e V ⟨rfl, hV, hk⟩
        have HV := hidM hV
        have HKV := hidM (HK.out.trans hk (fun _ _ h => h))
        clear hV hk
        go_wp2_with fail
        go_ret
        rw [HE.out]
        exact ⟨_, rfl, rfl, HV.out, HKV.out⟩
    · have HE : Hid (r = (x, t)) := HR.out.trans (if_neg (fun h => hx h.2))
      have hx1 : ¬ (x : Int) < (lo : Int) := by omega
      have hx2 : ¬ (hi : Int) < (x : Int) := by omega
      clear hx he
      go_wp2_with fail
      go_ret
      rw [HE.out]
      exact ⟨_, rfl, rfl, HD.out, HK.out⟩
  · have HE : Hid (r = (x, t)) := HR.out.trans (if_neg (fun h => he h.1))
    have he' : (t.e == 0) = false := by simp [he]
    go_wp2_with fail
    go_ret
    rw [HE.out]
    exact ⟨_, rfl, rfl, HD.out, HK.out⟩
def textX (B : List UInt8) (k : Nat) (s : DS) : ByteArray × DS := (⟨(takeX B (numX B k s).1 (numX B k s).2).1.toArray⟩, (takeX B (numX B k s).1 (numX B k s).2).2)
theorem numX_lt (B : List UInt8) (k : Nat) (hk : k ≤ 4) (s : DS) : (numX B k s).1 < 4294967296 := by
  have := leN_small (Nat.le_trans (takeX_len B k s) hk) 0
  simpa [numX] using this
set_option maxRecDepth 100000 in
set_option maxHeartbeats 2000000 in
theorem text31 (p : Nat) (bo : Option Addr) (B : List UInt8) (bc k : Nat) (hk : k ≤ 4) : DC p bo B bc 31 #[.pointer (some ⟨p, 0, none⟩), .int .i64 (k : Int)] (textX B k) (fun _ _ x v => v = .string x) := by
  intro W s h
  have H := hidM (number17 p bo B bc k hk W s h)
  have hlt := numX_lt B k hk s
  unfold textX
  obtain ⟨q, hq⟩ : ∃ q, q = numX B k s := ⟨_, rfl⟩
  rw [← hq] at H hlt ⊢
  obtain ⟨n, t⟩ := q
  clear h hq
  go_enter Tryd.func31, Tryd.ntmps31
  go_wp2_with (go_at_call 17; refine Hid.out ?_)
  unfold Hid
  refine Calls.mono H.out ?_
  rintro e U ⟨v, rfl, rfl, hD, hK⟩
  dsimp only at *
  have H2 := hidM (take32 p bo B bc n (by omega) U t hD)
  have HK := hidM hK
  clear hD hK H
  go_wp2_with (go_at_call 32; refine Hid.out ?_)
  unfold Hid
  refine Calls.mono H2.out ?_
  rintro e V ⟨v, rfl, ⟨lo, lc, rfl, hb⟩, hD, hK⟩
  have hcv := bytes_string (vc := lc) hb
  have HD := hidM hD
  have HKV := hidM (HK.out.trans hK (fun _ _ h => h))
  clear hb hD hK H2 HK
  go_wp2_with fail
  go_ret
  exact ⟨_, rfl, rfl, HD.out, HKV.out⟩
end Go.Proofs.YtdffjdlpbfcikaaDoor.Kit
namespace Go.Proofs.YtdffjdlpbfcikaaDoor.Kit
open Go.RowKit Go.Shelf Go.Deep
set_option linter.unusedVariables false
attribute [local go_sem] run_store_func

/-! ### a field, as the document reads it -/
def zF : FT := .mk ⟨#[]⟩ false 0 0 0 0 []
def extX (B : List UInt8) (k : Nat) (s : DS) : (Nat × Nat × Nat × Nat) × DS :=
  if k = 14 then (((numX B 2 s).1, 0, 0, 0), (numX B 2 s).2)
  else if k = 16 then (((numX B 2 s).1, 0, 0, 1), (numX B 2 s).2)
  else if k = 19 then ((0, (numX B 2 s).1, (numX B 1 (numX B 2 s).2).1, 1), (numX B 1 (numX B 2 s).2).2)
  else if k = 17 ∨ k = 18 then ((0, 0, 0, (numX B 1 s).1), (numX B 1 s).2)
  else if k = 15 ∨ k = 20 then ((0, 0, 0, 1), s) else ((0, 0, 0, 0), s)
def sevX {α : Type} (r : DS → α × DS) : Nat → List α → DS → List α × DS
  | 0, acc, s => (acc, s)
  | n + 1, acc, s => if s.e ≠ 0 then (acc, s) else sevX r n (acc ++ [(r s).1]) (r s).2
def fldX (B : List UInt8) (r : DS → FT × DS) (s : DS) : FT × DS :=
  let n := textX B 1 s
  let y := withX B 0 1 n.2
  let k := withX B 1 20 y.2
  let x := extX B k.1 k.2
  let l := sevX r x.1.2.2.2 [] x.2
  (.mk n.1 (y.1 == 1) (k.1 : Int) (x.1.1 : Int) (x.1.2.1 : Int) (x.1.2.2.1 : Int) l.1, l.2)
def fieldX (B : List UInt8) : Nat → DS → FT × DS
  | 0, s => if s.e ≠ 0 then (zF, s) else (zF, { s with g := s.g + 1, e := 50, f := s.a })
  | d + 1, s => if s.e ≠ 0 then (zF, s) else if s.g = 256 then (zF, { s with g := s.g + 1, e := 50, f := s.a }) else fldX B (fieldX B d) { s with g := s.g + 1 }
/-- where nothing is wrong, no more fields were begun than may be -/
def Gd (s : DS) : Prop := s.e = 0 → s.g ≤ 256
theorem Gd.take {B : List UInt8} {n : Nat} {s : DS} (h : Gd s) : Gd (takeX B n s).2 := by
  unfold takeX
  split
  · exact h
  · split
    · intro e; cases e
    · exact h
theorem Gd.num {B : List UInt8} {n : Nat} {s : DS} (h : Gd s) : Gd (numX B n s).2 := h.take
theorem Gd.within {B : List UInt8} {lo hi : Nat} {s : DS} (h : Gd s) : Gd (withX B lo hi s).2 := by
  unfold withX
  split
  · intro e; cases e
  · exact h.num
theorem Gd.text {B : List UInt8} {n : Nat} {s : DS} (h : Gd s) : Gd (textX B n s).2 := h.num.take
theorem Gd.ext {B : List UInt8} {k : Nat} {s : DS} (h : Gd s) : Gd (extX B k s).2 := by
  unfold extX
  repeat' split
  all_goals first | exact h.num | exact h.num.num | exact h
theorem Gd.sev {α : Type} {r : DS → α × DS} (hr : ∀ s, Gd s → Gd (r s).2) : ∀ (n : Nat) (acc : List α) (s : DS), Gd s → Gd (sevX r n acc s).2
  | 0, _, _, h => h
  | n + 1, acc, s, h => by
    rw [sevX]
    split
    · exact h
    · exact Gd.sev hr n _ _ (hr s h)
theorem Gd.field {B : List UInt8} : ∀ (d : Nat) (s : DS), Gd s → Gd (fieldX B d s).2
  | 0, s, h => by
    rw [fieldX]
    split
    · exact h
    · intro e; cases e
  | d + 1, s, h => by
    rw [fieldX]
    split
    · exact h
    · split
      · intro e; cases e
      · rename_i h1 h2
        have h3 : Gd { s with g := s.g + 1 } := fun e => by have := h (by simpa using h1); show s.g + 1 ≤ 256; omega
        exact Gd.sev (fun s hs => Gd.field d s hs) _ _ _ h3.text.within.within.ext
theorem DAt.over {W U U' : World} {p : Nat} {bo : Option Addr} {B : List UInt8} {bc : Nat} {s0 s : DS} (h0 : DAt W p bo B bc s0) (h : DAt U p bo B bc s) (k : Keeps W U' (fun z => z = p)) (hb : U'.heap[p]? = U.heap[p]?) : DAt U' p bo B bc s :=
  ⟨hb.trans h.box, h0.bytes.kp (p := p) k h0.ne, h.form, h.ne, h.len, h.pos, h.few⟩
/-- a cell of the field's box is written -/
theorem FB.set {W U : World} {p b c : Nat} {x0 x1 x2 x3 x4 x5 x6 y0 y1 y2 y3 y4 y5 y6 : Value} (h : FB W U p b c x0 x1 x2 x3 x4 x5 x6) (i : Nat) (v : Value) (e : (#[x0, x1, x2, x3, x4, x5, x6] : Array Value).setIfInBounds i v = #[y0, y1, y2, y3, y4, y5, y6]) : FB W (U.setCell ⟨c, i, none⟩ v) p b c y0 y1 y2 y3 y4 y5 y6 := by
  refine ⟨?_, ?_, h.lt⟩
  · exact (((Keeps.refl U (fun z => z = c)).setCell (p := ⟨c, i, none⟩) (fun _ => rfl) v).block b (lt_of_heap h.rb) (by have := h.lt; omega)).trans h.rb
  · rw [heap_setCell_same U c i _ _ v h.tb, e]
/-- what is kept while the field's box is written -/
structure FS (W U : World) (p bo_ : Nat) (b c : Nat) : Prop where
  k : Keeps W U (fun z => z = p)
theorem kp_set {W U : World} {p c : Nat} (h : Keeps W U (fun z => z = p)) (hc : W.heap.size ≤ c) (i : Nat) (v : Value) : Keeps W (U.setCell ⟨c, i, none⟩ v) (fun z => z = p) :=
  h.trans ((Keeps.refl U (fun z => z = c)).setCell (p := ⟨c, i, none⟩) (fun _ => rfl) v) fun j hj e => by omega
theorem DAt.set {W U : World} {p : Nat} {bo : Option Addr} {B : List UInt8} {bc : Nat} {s0 s : DS} {c : Nat} (h0 : DAt W p bo B bc s0) (h : DAt U p bo B bc s) (k : Keeps W U (fun z => z = p)) (hc : W.heap.size ≤ c) (i : Nat) (v : Value) : DAt (U.setCell ⟨c, i, none⟩ v) p bo B bc s :=
  DAt.over h0 h (kp_set k hc i v) (((Keeps.refl U (fun z => z = c)).setCell (p := ⟨c, i, none⟩) (fun _ => rfl) v).block p h.lt (by have := h0.lt; omega))
def DCg {α : Type} (p : Nat) (bo : Option Addr) (B : List UInt8) (bc : Nat) (F : Nat) (args : Array Value) (r : DS → α × DS) (V : World → World → α → Value → Prop) : Prop :=
  ∀ W s, DAt W p bo B bc s → Gd s → Calls Tryd.prog F args W fun e w' => ∃ v, e = .returned v ∧ V W w' (r s).1 v ∧ DAt w' p bo B bc (r s).2 ∧ Keeps W w' (fun z => z = p)
set_option maxRecDepth 100000 in
set_option maxHeartbeats 600000 in
/-- where something is wrong already, or there may be no more -/
theorem field30_no (p : Nat) (bo : Option Addr) (B : List UInt8) (bc D d : Nat) (ar : Int) (W : World) (s : DS) (h : DAt W p bo B bc s) (hg : Gd s) (hc : s.e ≠ 0 ∨ s.g = 256 ∨ 64 ≤ ar) (r : FT × DS) (hr : r = if s.e ≠ 0 then (zF, s) else (zF, { s with g := s.g + 1, e := 50, f := s.a })) :
    Calls Tryd.prog 30 #[.pointer (some ⟨p, 0, none⟩), .int .i64 ar] W fun e w' => ∃ v, e = .returned v ∧ FV D W w' r.1 v ∧ DAt w' p bo B bc r.2 ∧ Keeps W w' (fun z => z = p) := by
  obtain ⟨V, hV⟩ : ∃ V, (W.alloc (.cells #[.string ⟨#[]⟩, .bool false, .int .i64 0, .int .i64 0, .int .i64 0, .int .i64 0, .slice none 0 0] 80)).alloc (.cells #[.string ⟨#[]⟩, .bool false, .int .i64 0, .int .i64 0, .int .i64 0, .int .i64 0, .slice none 0 0] 80) = V := ⟨_, rfl⟩
  obtain ⟨b, hb⟩ : ∃ b, b = W.heap.size := ⟨_, rfl⟩
  have s1 : (W.alloc (.cells #[.string ⟨#[]⟩, .bool false, .int .i64 0, .int .i64 0, .int .i64 0, .int .i64 0, .slice none 0 0] 80)).heap.size = b + 1 := by rw [hb]; simp
  have g1 := gr_alloc W (.cells #[.string ⟨#[]⟩, .bool false, .int .i64 0, .int .i64 0, .int .i64 0, .int .i64 0, .slice none 0 0] 80)
  have g2 := gr_alloc (W.alloc (.cells #[.string ⟨#[]⟩, .bool false, .int .i64 0, .int .i64 0, .int .i64 0, .int .i64 0, .slice none 0 0] 80)) (.cells #[.string ⟨#[]⟩, .bool false, .int .i64 0, .int .i64 0, .int .i64 0, .int .i64 0, .slice none 0 0] 80)
  have c1 := heap_alloc_new W (.cells #[.string ⟨#[]⟩, .bool false, .int .i64 0, .int .i64 0, .int .i64 0, .int .i64 0, .slice none 0 0] 80)
  have c2 := heap_alloc_new (W.alloc (.cells #[.string ⟨#[]⟩, .bool false, .int .i64 0, .int .i64 0, .int .i64 0, .int .i64 0, .slice none 0 0] 80)) (.cells #[.string ⟨#[]⟩, .bool false, .int .i64 0, .int .i64 0, .int .i64 0, .int .i64 0, .slice none 0 0] 80)
  rw [← hb] at c1
  rw [s1] at c2
  have g12 := g1.trans g2 (fun _ _ h => h)
  rw [hV] at g2 g12 c2
  have hB0 : FB W V p b (b + 1) (.string ⟨#[]⟩) (.bool false) (.int .i64 0) (.int .i64 0) (.int .i64 0) (.int .i64 0) (.slice none 0 0) := ⟨(g2.block b (lt_of_heap c1) id).trans c1, c2, by omega, by omega, h.lt⟩
  have hD0 := h.gr g12
  have HG0 : Hid (Keeps W V (fun z => z = p)) := g12.mono fun _ _ h => h.elim
  have HW0 := hidM h
  have HBx0 := hidM hB0
  have HD0 := hidM hD0
  have HV := hidM hV
  have Hb := hidM hb
  obtain ⟨d0, d1, d2, d3, d4, d5⟩ := hD0.cells
  have f2 := frz hD0.box 2
  by_cases he : s.e = 0
  · have HR : Hid (r = (zF, { s with g := s.g + 1, e := 50, f := s.a })) := hr.trans (if_neg (by simp [he]))
    have hgl := hg he
    rw [he] at d3
    obtain ⟨g, hgg⟩ : ∃ g, g = s.g := ⟨_, rfl⟩
    rw [← hgg] at d2 hgl hc
    have hwg : IntKind.i64.wrap ((g : Int) + 1) = (g : Int) + 1 := by rw [IntKind.wrap_i64]; omega
    have hgc : ((g + 1 : Nat) : Int) = (g : Int) + 1 := by omega
    have hM := hD0.more (by omega)
    rw [← hgg, hgc] at hM
    obtain ⟨U, hU⟩ : ∃ U, V.setCell ⟨p, 2, none⟩ (.int .i64 ((g : Int) + 1)) = U := ⟨_, rfl⟩
    rw [hU] at hM
    have kU : Keeps V U (fun z => z = p) := by rw [← hU]; exact (Keeps.refl V (fun z => z = p)).setCell (p := ⟨p, 2, none⟩) (fun _ => rfl) _
    have HM := hidM hM
    have HKU := hidM kU
    have HBU := hidM (hB0.kp kU)
    have HGU : Hid (Keeps W U (fun z => z = p)) := HG0.out.trans kU (fun _ _ h => h)
    obtain ⟨m0, m1, m2, m3, m4, m5⟩ := hM.cells
    obtain ⟨a, ha⟩ : ∃ a, a = s.a := ⟨_, rfl⟩
    dsimp only at m1 m2 m3
    rw [← ha] at m1
    rw [hgc] at m2
    rw [he] at m3
    have Ha := hidM ha
    have Hgg := hidM hgg
    have He := hidM he
    clear h hg hr hb s1 g1 g2 c1 c2 g12 hB0 hD0 hM kU ha hgg he
    clear hgc
    by_cases hgt : g = 256
    · have x1 : (256 : Int) < (g : Int) + 1 := by omega
      clear hc hgt
      go_enter Tryd.func30, Tryd.ntmps30
      go_wp2_with (go_at_call 19; refine Hid.out ?_)
      unfold Hid
      rw [← Hb.out]
      clear hV hU
      refine Calls.mono (wrong19 HM.out He.out 50 a) ?_
      rintro e Y ⟨rfl, hY, kY⟩
      have HBY := hidM (HBU.out.kp kY)
      have HGY : Hid (Keeps W Y (fun z => z = p)) := HGU.out.trans kY (fun _ _ h => h)
      have HDY := hidM hY
      clear hY kY d0 d1 d2 d3 d4 d5 m0 m1 m2 m3 m4 m5
      have r0 : Y.cell? ⟨b, 0, none⟩ = some (.string ⟨#[]⟩) := by simp [World.cell?, HBY.out.rb]
      have q0 := frz HBY.out.rb 0
      have t0 : Y.cell? ⟨b + 1, 0, none⟩ = some (.string ⟨#[]⟩) := by simp [World.cell?, HBY.out.tb]
      have r1 : Y.cell? ⟨b, 1, none⟩ = some (.bool false) := by simp [World.cell?, HBY.out.rb]
      have q1 := frz HBY.out.rb 1
      have t1 : Y.cell? ⟨b + 1, 1, none⟩ = some (.bool false) := by simp [World.cell?, HBY.out.tb]
      have r2 : Y.cell? ⟨b, 2, none⟩ = some (.int .i64 0) := by simp [World.cell?, HBY.out.rb]
      have q2 := frz HBY.out.rb 2
      have t2 : Y.cell? ⟨b + 1, 2, none⟩ = some (.int .i64 0) := by simp [World.cell?, HBY.out.tb]
      have r3 : Y.cell? ⟨b, 3, none⟩ = some (.int .i64 0) := by simp [World.cell?, HBY.out.rb]
      have q3 := frz HBY.out.rb 3
      have t3 : Y.cell? ⟨b + 1, 3, none⟩ = some (.int .i64 0) := by simp [World.cell?, HBY.out.tb]
      have r4 : Y.cell? ⟨b, 4, none⟩ = some (.int .i64 0) := by simp [World.cell?, HBY.out.rb]
      have q4 := frz HBY.out.rb 4
      have t4 : Y.cell? ⟨b + 1, 4, none⟩ = some (.int .i64 0) := by simp [World.cell?, HBY.out.tb]
      have r5 : Y.cell? ⟨b, 5, none⟩ = some (.int .i64 0) := by simp [World.cell?, HBY.out.rb]
      have q5 := frz HBY.out.rb 5
      have t5 : Y.cell? ⟨b + 1, 5, none⟩ = some (.int .i64 0) := by simp [World.cell?, HBY.out.tb]
      have r6 : Y.cell? ⟨b, 6, none⟩ = some (.slice none 0 0) := by simp [World.cell?, HBY.out.rb]
      have q6 := frz HBY.out.rb 6
      have t6 : Y.cell? ⟨b + 1, 6, none⟩ = some (.slice none 0 0) := by simp [World.cell?, HBY.out.tb]
      have hE1 := put7_box (.string ⟨#[]⟩) (.bool false) (.int .i64 0) (.int .i64 0) (.int .i64 0) (.int .i64 0) (.slice none 0 0) HBY.out.rb
      have hE2 := put7_keeps Y b (.string ⟨#[]⟩) (.bool false) (.int .i64 0) (.int .i64 0) (.int .i64 0) (.int .i64 0) (.slice none 0 0)
      obtain ⟨X, hX⟩ : ∃ X, (((((((Y.setCell ⟨b, 0, none⟩ (.string ⟨#[]⟩)).setCell ⟨b, 1, none⟩ (.bool false)).setCell ⟨b, 2, none⟩ (.int .i64 0)).setCell ⟨b, 3, none⟩ (.int .i64 0)).setCell ⟨b, 4, none⟩ (.int .i64 0)).setCell ⟨b, 5, none⟩ (.int .i64 0)).setCell ⟨b, 6, none⟩ (.slice none 0 0)) = X := ⟨_, rfl⟩
      rw [hX] at hE1 hE2
      have HE1 := hidM hE1
      have HE2 := hidM hE2
      clear hE1 hE2
      go_wp2_with fail
      have kX : Keeps W X (fun z => z = p) := HGY.out.trans HE2.out fun j hj e => by have := Hb.out; omega
      have dX := DAt.over HW0.out HDY.out kX (HE2.out.block p HDY.out.lt (by have := HW0.out.lt; have := Hb.out; omega))
      (try simp only [Exit.inBlock, Exit.then])
      refine bodyPost_ret (results_cell80 rfl rfl HE1.out (by kernel_rfl)) rfl ?_
      have hfin : r = (zF, { s with g := g + 1, e := 50, f := a }) := by rw [HR.out, Hgg.out, Ha.out]
      rw [hfin]
      exact ⟨_, rfl, ⟨none, 0, rfl, Nat.le_refl _, RowAt.more (d := 0) rfl (Nat.zero_le _)⟩, dX, kX⟩
    · have x1 : ¬ (256 : Int) < (g : Int) + 1 := by omega
      have x2 : (64 : Int) ≤ ar := by rcases hc with q | q | q; exact absurd He.out q; exact absurd q hgt; exact q
      clear hc
      go_enter Tryd.func30, Tryd.ntmps30
      go_wp2_with (go_at_call 19; refine Hid.out ?_)
      unfold Hid
      rw [← Hb.out]
      clear hV hU
      refine Calls.mono (wrong19 HM.out He.out 50 a) ?_
      rintro e Y ⟨rfl, hY, kY⟩
      have HBY := hidM (HBU.out.kp kY)
      have HGY : Hid (Keeps W Y (fun z => z = p)) := HGU.out.trans kY (fun _ _ h => h)
      have HDY := hidM hY
      clear hY kY d0 d1 d2 d3 d4 d5 m0 m1 m2 m3 m4 m5
      have r0 : Y.cell? ⟨b, 0, none⟩ = some (.string ⟨#[]⟩) := by simp [World.cell?, HBY.out.rb]
      have q0 := frz HBY.out.rb 0
      have t0 : Y.cell? ⟨b + 1, 0, none⟩ = some (.string ⟨#[]⟩) := by simp [World.cell?, HBY.out.tb]
      have r1 : Y.cell? ⟨b, 1, none⟩ = some (.bool false) := by simp [World.cell?, HBY.out.rb]
      have q1 := frz HBY.out.rb 1
      have t1 : Y.cell? ⟨b + 1, 1, none⟩ = some (.bool false) := by simp [World.cell?, HBY.out.tb]
      have r2 : Y.cell? ⟨b, 2, none⟩ = some (.int .i64 0) := by simp [World.cell?, HBY.out.rb]
      have q2 := frz HBY.out.rb 2
      have t2 : Y.cell? ⟨b + 1, 2, none⟩ = some (.int .i64 0) := by simp [World.cell?, HBY.out.tb]
      have r3 : Y.cell? ⟨b, 3, none⟩ = some (.int .i64 0) := by simp [World.cell?, HBY.out.rb]
      have q3 := frz HBY.out.rb 3
      have t3 : Y.cell? ⟨b + 1, 3, none⟩ = some (.int .i64 0) := by simp [World.cell?, HBY.out.tb]
      have r4 : Y.cell? ⟨b, 4, none⟩ = some (.int .i64 0) := by simp [World.cell?, HBY.out.rb]
      have q4 := frz HBY.out.rb 4
      have t4 : Y.cell? ⟨b + 1, 4, none⟩ = some (.int .i64 0) := by simp [World.cell?, HBY.out.tb]
      have r5 : Y.cell? ⟨b, 5, none⟩ = some (.int .i64 0) := by simp [World.cell?, HBY.out.rb]
      have q5 := frz HBY.out.rb 5
      have t5 : Y.cell? ⟨b + 1, 5, none⟩ = some (.int .i64 0) := by simp [World.cell?, HBY.out.tb]
      have r6 : Y.cell? ⟨b, 6, none⟩ = some (.slice none 0 0) := by simp [World.cell?, HBY.out.rb]
      have q6 := frz HBY.out.rb 6
      have t6 : Y.cell? ⟨b + 1, 6, none⟩ = some (.slice none 0 0) := by simp [World.cell?, HBY.out.tb]
      have hE1 := put7_box (.string ⟨#[]⟩) (.bool false) (.int .i64 0) (.int .i64 0) (.int .i64 0) (.int .i64 0) (.slice none 0 0) HBY.out.rb
      have hE2 := put7_keeps Y b (.string ⟨#[]⟩) (.bool false) (.int .i64 0) (.int .i64 0) (.int .i64 0) (.int .i64 0) (.slice none 0 0)
      obtain ⟨X, hX⟩ : ∃ X, (((((((Y.setCell ⟨b, 0, none⟩ (.string ⟨#[]⟩)).setCell ⟨b, 1, none⟩ (.bool false)).setCell ⟨b, 2, none⟩ (.int .i64 0)).setCell ⟨b, 3, none⟩ (.int .i64 0)).setCell ⟨b, 4, none⟩ (.int .i64 0)).setCell ⟨b, 5, none⟩ (.int .i64 0)).setCell ⟨b, 6, none⟩ (.slice none 0 0)) = X := ⟨_, rfl⟩
      rw [hX] at hE1 hE2
      have HE1 := hidM hE1
      have HE2 := hidM hE2
      clear hE1 hE2
      go_wp2_with fail
      have kX : Keeps W X (fun z => z = p) := HGY.out.trans HE2.out fun j hj e => by have := Hb.out; omega
      have dX := DAt.over HW0.out HDY.out kX (HE2.out.block p HDY.out.lt (by have := HW0.out.lt; have := Hb.out; omega))
      (try simp only [Exit.inBlock, Exit.then])
      refine bodyPost_ret (results_cell80 rfl rfl HE1.out (by kernel_rfl)) rfl ?_
      have hfin : r = (zF, { s with g := g + 1, e := 50, f := a }) := by rw [HR.out, Hgg.out, Ha.out]
      rw [hfin]
      exact ⟨_, rfl, ⟨none, 0, rfl, Nat.le_refl _, RowAt.more (d := 0) rfl (Nat.zero_le _)⟩, dX, kX⟩
  · have HR : Hid (r = (zF, s)) := hr.trans (if_pos he)
    have he' : (s.e == 0) = false := by simp [he]
    clear h hg hr hc hb s1 g1 g2 c1 c2 g12 hB0 hD0 he
    rw [Hb.out] at HBx0
    have Hb2 : Hid (W.heap.size = W.heap.size) := rfl
    have r0 : V.cell? ⟨W.heap.size, 0, none⟩ = some (.string ⟨#[]⟩) := by simp [World.cell?, HBx0.out.rb]
    have q0 := frz HBx0.out.rb 0
    have t0 : V.cell? ⟨W.heap.size + 1, 0, none⟩ = some (.string ⟨#[]⟩) := by simp [World.cell?, HBx0.out.tb]
    have r1 : V.cell? ⟨W.heap.size, 1, none⟩ = some (.bool false) := by simp [World.cell?, HBx0.out.rb]
    have q1 := frz HBx0.out.rb 1
    have t1 : V.cell? ⟨W.heap.size + 1, 1, none⟩ = some (.bool false) := by simp [World.cell?, HBx0.out.tb]
    have r2 : V.cell? ⟨W.heap.size, 2, none⟩ = some (.int .i64 0) := by simp [World.cell?, HBx0.out.rb]
    have q2 := frz HBx0.out.rb 2
    have t2 : V.cell? ⟨W.heap.size + 1, 2, none⟩ = some (.int .i64 0) := by simp [World.cell?, HBx0.out.tb]
    have r3 : V.cell? ⟨W.heap.size, 3, none⟩ = some (.int .i64 0) := by simp [World.cell?, HBx0.out.rb]
    have q3 := frz HBx0.out.rb 3
    have t3 : V.cell? ⟨W.heap.size + 1, 3, none⟩ = some (.int .i64 0) := by simp [World.cell?, HBx0.out.tb]
    have r4 : V.cell? ⟨W.heap.size, 4, none⟩ = some (.int .i64 0) := by simp [World.cell?, HBx0.out.rb]
    have q4 := frz HBx0.out.rb 4
    have t4 : V.cell? ⟨W.heap.size + 1, 4, none⟩ = some (.int .i64 0) := by simp [World.cell?, HBx0.out.tb]
    have r5 : V.cell? ⟨W.heap.size, 5, none⟩ = some (.int .i64 0) := by simp [World.cell?, HBx0.out.rb]
    have q5 := frz HBx0.out.rb 5
    have t5 : V.cell? ⟨W.heap.size + 1, 5, none⟩ = some (.int .i64 0) := by simp [World.cell?, HBx0.out.tb]
    have r6 : V.cell? ⟨W.heap.size, 6, none⟩ = some (.slice none 0 0) := by simp [World.cell?, HBx0.out.rb]
    have q6 := frz HBx0.out.rb 6
    have t6 : V.cell? ⟨W.heap.size + 1, 6, none⟩ = some (.slice none 0 0) := by simp [World.cell?, HBx0.out.tb]
    have hE1 := put7_box (.string ⟨#[]⟩) (.bool false) (.int .i64 0) (.int .i64 0) (.int .i64 0) (.int .i64 0) (.slice none 0 0) HBx0.out.rb
    have hE2 := put7_keeps V W.heap.size (.string ⟨#[]⟩) (.bool false) (.int .i64 0) (.int .i64 0) (.int .i64 0) (.int .i64 0) (.slice none 0 0)
    obtain ⟨X, hX⟩ : ∃ X, (((((((V.setCell ⟨W.heap.size, 0, none⟩ (.string ⟨#[]⟩)).setCell ⟨W.heap.size, 1, none⟩ (.bool false)).setCell ⟨W.heap.size, 2, none⟩ (.int .i64 0)).setCell ⟨W.heap.size, 3, none⟩ (.int .i64 0)).setCell ⟨W.heap.size, 4, none⟩ (.int .i64 0)).setCell ⟨W.heap.size, 5, none⟩ (.int .i64 0)).setCell ⟨W.heap.size, 6, none⟩ (.slice none 0 0)) = X := ⟨_, rfl⟩
    rw [hX] at hE1 hE2
    have HE1 := hidM hE1
    have HE2 := hidM hE2
    clear hE1 hE2
    go_enter Tryd.func30, Tryd.ntmps30
    go_wp2
    have kX : Keeps W X (fun z => z = p) := HG0.out.trans HE2.out fun j hj e => by omega
    have dX := DAt.over HW0.out HD0.out kX (HE2.out.block p HD0.out.lt (by have := HW0.out.lt; omega))
    (try simp only [Exit.inBlock, Exit.then])
    refine bodyPost_ret (results_cell80 rfl rfl HE1.out (by kernel_rfl)) rfl ?_
    rw [HR.out]
    exact ⟨_, rfl, ⟨none, 0, rfl, Nat.le_refl _, RowAt.more (d := 0) rfl (Nat.zero_le _)⟩, dX, kX⟩
end Go.Proofs.YtdffjdlpbfcikaaDoor.Kit
