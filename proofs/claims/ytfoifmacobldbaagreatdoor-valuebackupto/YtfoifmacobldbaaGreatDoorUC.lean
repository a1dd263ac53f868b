import Derived.Test.YtfoifmacobldbaaGreatDoorQG
set_option maxRecDepth 100000
set_option maxHeartbeats 4000000
namespace Go.Proofs.YtfoifmacobldbaaGreatDoor.Kit
open Go.RowKit Go.Shelf Go.Deep
set_option linter.unusedVariables false
set_option linter.unusedSimpArgs false
/-! ### value 29, whole -/
/-- what reading asks of a field -/
def okR : Nat → FT → Prop
  | 0, _ => False
  | D + 1, f => (1 ≤ f.kind ∧ f.kind ≤ 20) ∧ (f.kind = 14 ∨ f.kind = 16 → 0 ≤ f.width ∧ f.width ≤ 1000000) ∧ (f.kind = 15 ∨ f.kind = 16 ∨ f.kind = 19 ∨ f.kind = 20 → f.kids ≠ []) ∧ ∀ g ∈ f.kids, g.name.size ≤ 64 ∧ okR D g
structure EnR (S : Nat → Prop) (p : Nat) (W : World) : Prop where
  hS : ∀ b, S b → b < W.heap.size ∧ b ≠ p
  tb : Tbs W
  ut : Lib.Utf8Tabs 0 1 W
theorem EnR.kp {S : Nat → Prop} {p : Nat} {W u : World} (h : EnR S p W) (hp : 9 ≤ p) (k : Keeps W u (fun z => z = p)) : EnR S p u :=
  ⟨fun b hb => ⟨Nat.lt_of_lt_of_le (h.hS b hb).1 k.size, (h.hS b hb).2⟩, h.tb.kp k (fun b hb e => by omega), utf_kp h.ut k (fun b hb e => by omega)⟩
theorem EnR.row {S : Nat → Prop} {p : Nat} {W u : World} (h : EnR S p W) (k : Keeps W u (fun z => z = p)) {D : Nat} {ao : Option Addr} {l : List FT} (r : RowAt S W D ao l) : RowAt S u D ao l :=
  r.kept fun b hb => k.block b (h.hS b hb).1 (fun e => (h.hS b hb).2 e)
theorem VaA.more {W W' : World} {p : Nat} {s : ByteArray} {er : Int} {d : Nat} {o : Option (VT × List UInt8)} {e : Ending} (h : VaA W p s er d o e W') : VaA W p s er (d + 1) o e W' := by
  cases o with
  | none => exact h
  | some x =>
    obtain ⟨v, t⟩ := x
    obtain ⟨h1, ⟨val, he, ko, kc, hv, h2, h3, h4⟩, h5⟩ := h
    exact ⟨h1, ⟨val, he, ko, kc, hv, h2, h3, h4.more (by omega)⟩, h5⟩
theorem rdL_len {l l' t : List UInt8} (h : rdL l = some (l', t)) : l'.length ≤ l.length := by
  have h1 := (QE.let_back _ _ _ _ h).1
  have h2 := QF.flat_len l'
  have h3 := congrArg List.length h1
  simp only [List.length_append, List.length_cons] at h3
  omega
theorem hex_len' {l l' t : List UInt8} (h : QF.rdHex l = some (l', t)) : l'.length ≤ l.length := by
  have h1 := QF.hex_rd _ _ _ h
  have h2 := QG.hex_len l'
  have h3 := congrArg List.length h1
  simp only [List.length_append, List.length_cons] at h3
  omega
theorem leaf12 (f : FT) (s : List UInt8) (h : f.kind = 12) : QF.leafR numB f s = ((QB.takes [34] s).bind rdL).map fun x => (QF.txtV x.1, x.2) := by
  unfold QF.leafR
  rw [if_pos h]
  cases QB.takes [34] s with
  | none => rfl
  | some s1 =>
    show (match QE.rdLet (s1.length + 1) s1 with | none => none | some (l, t) => some (QF.txtV l, t)) = Option.map _ (rdL s1)
    unfold rdL
    cases QE.rdLet (s1.length + 1) s1 <;> rfl
theorem leaf13 (f : FT) (s : List UInt8) (h : f.kind = 13) : QF.leafR numB f s = ((QB.takes [120, 34] s).bind QF.rdHex).map fun x => (QF.txtV x.1, x.2) := by
  unfold QF.leafR
  rw [if_neg (by omega), if_pos (.inl h)]
  cases QB.takes [120, 34] s with
  | none => rfl
  | some s1 =>
    show (match QF.rdHex s1 with | none => none | some (l, t) => if f.kind = 14 ∧ (l.length : Int) ≠ f.width then none else some (QF.txtV l, t)) = Option.map _ (QF.rdHex s1)
    cases QF.rdHex s1 with
    | none => rfl
    | some x => simp [h]
theorem leaf14 (f : FT) (s : List UInt8) (h : f.kind = 14) : QF.leafR numB f s = (((QB.takes [120, 34] s).bind QF.rdHex).bind fun r => if (r.1.length : Int) ≠ f.width then none else some r).map fun x => (QF.txtV x.1, x.2) := by
  unfold QF.leafR
  rw [if_neg (by omega), if_pos (.inr h)]
  cases QB.takes [120, 34] s with
  | none => rfl
  | some s1 =>
    show (match QF.rdHex s1 with | none => none | some (l, t) => if f.kind = 14 ∧ (l.length : Int) ≠ f.width then none else some (QF.txtV l, t)) = Option.map _ ((QF.rdHex s1).bind _)
    cases QF.rdHex s1 with
    | none => rfl
    | some x =>
      obtain ⟨l, t⟩ := x
      by_cases hw : (l.length : Int) = f.width
      · simp [h, hw]
      · simp [h, hw]
theorem leafN (f : FT) (s : List UInt8) (h : f.kind ≤ 11) : QF.leafR numB f s = (QF.numO numB f.kind (s.takeWhile QB.rowB)).map fun n => (.mk false n ⟨#[]⟩ [], s.dropWhile QB.rowB) := by
  unfold QF.leafR
  rw [if_neg (by omega), if_neg (by omega)]
  cases QF.numO numB f.kind (s.takeWhile QB.rowB) <;> rfl
theorem numO_64 {k : Int} {row : List UInt8} {n : Int} (h : QF.numO numB k row = some n) : is64 n := by
  unfold QF.numO at h
  split at h
  · rename_i c
    cases h
    exact c.2.2
  · cases h
theorem dropW (s : ByteArray) (a : Nat) (q : UInt8 → Bool) : (s.data.toList.drop a).dropWhile q = s.data.toList.drop (a + ((s.data.toList.drop a).takeWhile q).length) := by
  have h := List.takeWhile_append_dropWhile (p := q) (l := s.data.toList.drop a)
  rw [← List.drop_drop]
  generalize (s.data.toList.drop a).takeWhile q = T at h ⊢
  conv => rhs; rw [← h]
  simp
theorem takeW_le (s : ByteArray) (a : Nat) (ha : a ≤ s.size) (q : UInt8 → Bool) : a + ((s.data.toList.drop a).takeWhile q).length ≤ s.size := by
  have h := (List.takeWhile_prefix q (l := s.data.toList.drop a)).length_le
  simp only [List.length_drop, sz_list] at h
  omega
theorem rdB15 (r : FT → List UInt8 → Option (VT × List UInt8)) (f : FT) (s : List UInt8) (hn : ¬ (f.nul = true ∧ QB.isNullB s = true)) (h : f.kind = 15) : QB.rdB (QF.leafR numB) r f s = (itR (r f.kids.head!) s).map fun x => (QB.listV x.1, x.2) := by
  unfold QB.rdB itR
  rw [if_neg hn, if_pos h]
  cases QB.takes [91] s with
  | none => rfl
  | some s1 =>
    simp only
    cases QB.takes [93] s1 with
    | some s2 => rfl
    | none =>
      simp only
      cases QB.rdItems (r f.kids.head!) 4096 s1 <;> rfl
theorem lst_map (o : Option (List VT × List UInt8)) : QB.lst o = o.map fun x => (QB.listV x.1, x.2) := by cases o <;> rfl
theorem rdB17 (r : FT → List UInt8 → Option (VT × List UInt8)) (f : FT) (s : List UInt8) (hn : ¬ (f.nul = true ∧ QB.isNullB s = true)) (h : f.kind = 17) : QB.rdB (QF.leafR numB) r f s = (paR r f.kids s).map fun x => (QB.listV x.1, x.2) := by
  unfold QB.rdB paR
  rw [if_neg hn, if_neg (by omega), if_neg (by omega), if_pos h]
  cases QB.takes [123] s with
  | none => rfl
  | some s1 => exact lst_map _
theorem head0 {l : List FT} (h : 0 < l.length) : l.head! = l[0] := by
  cases l with
  | nil => simp at h
  | cons a b => rfl
theorem val29_step (S : Nat → Prop) (p : Nat) (hp9 : 9 ≤ p) (s : ByteArray) (er : Int) (D : Nat)
    (ih : ∀ D', D = D' + 1 → ∀ (f : FT) (W : World) (a : Nat) (fo : Option Addr) (fc : Nat), EnR S p W → RowAt S W D' fo f.kids → f.kids.length ≤ fc → okR (D' + 1) f → Rd W p s a er → Calls Tryz.prog 29 #[.pointer (some ⟨p, 0, none⟩), .agg #[.string f.name, .bool f.nul, .int .i64 f.kind, .int .i64 f.width, .int .i64 f.id, .int .i64 f.index, .slice fo f.kids.length fc]] W (VaA W p s er (D' + 1) (QB.rdV (QF.leafR numB) (D' + 1) f (s.data.toList.drop a))))
    (f : FT) (W : World) (a : Nat) (fo : Option Addr) (fc : Nat) (hE : EnR S p W) (hrow : RowAt S W D fo f.kids) (hfc : f.kids.length ≤ fc) (hok : okR (D + 1) f) (hR : Rd W p s a er) :
    Calls Tryz.prog 29 #[.pointer (some ⟨p, 0, none⟩), .agg #[.string f.name, .bool f.nul, .int .i64 f.kind, .int .i64 f.width, .int .i64 f.id, .int .i64 f.index, .slice fo f.kids.length fc]] W (VaA W p s er (D + 1) (QB.rdV (QF.leafR numB) (D + 1) f (s.data.toList.drop a))) := by
  obtain ⟨hk, hwd, hne, hkid⟩ := hok
  have hap := hR.pos
  have hsl := hR.len
  show Calls _ _ _ _ (VaA W p s er (D + 1) (QB.rdB (QF.leafR numB) (QB.rdV (QF.leafR numB) D) f (s.data.toList.drop a)))
  by_cases hn : f.nul = true ∧ QB.isNullB (s.data.toList.drop a) = true
  · unfold QB.rdB
    rw [if_pos hn]
    exact v29_null p s W a (D + 1) er f.name f.nul f.kind f.width f.id f.index fo f.kids.length fc hR hn.1 hn.2
  have hnul : f.nul = true → QB.isNullB (s.data.toList.drop a) = false := fun h => Bool.eq_false_iff.2 fun h2 => hn ⟨h, h2⟩
  -- what the children answer
  have HK : ∀ u, Keeps W u (fun z => z = p) → ∀ D', D = D' + 1 → ∀ g, g ∈ f.kids → ∀ go gc, g.kids.length ≤ gc → RowAt S W D' go g.kids → ∀ W2 k, Keeps u W2 (fun z => z = p) → Rd W2 p s k er → Calls Tryz.prog 29 #[.pointer (some ⟨p, 0, none⟩), .agg #[.string g.name, .bool g.nul, .int .i64 g.kind, .int .i64 g.width, .int .i64 g.id, .int .i64 g.index, .slice go g.kids.length gc]] W2 (VaA W2 p s er D (QB.rdV (QF.leafR numB) D g (s.data.toList.drop k))) := fun u hu D' hD g hg go gc hgc hgr W2 k h2 hr => by
    subst hD
    have hk2 := hu.trans h2 (fun _ _ h => h)
    exact ih D' rfl g W2 k go gc (hE.kp hp9 hk2) (hE.row hk2 hgr) hgc (hkid g hg).2 hr
  by_cases h15 : f.kind = 15
  · rw [rdB15 _ f _ hn h15]
    obtain ⟨D', rfl⟩ : ∃ D', D = D' + 1 := by
      cases D with
      | zero => exact absurd hrow (hne (.inl h15))
      | succ D' => exact ⟨D', rfl⟩
    obtain ⟨fb, fO, rfl, hSb, hrows⟩ := hrow.2 (hne (.inl h15))
    have h0 : 0 < f.kids.length := List.length_pos_iff.2 (hne (.inl h15))
    obtain ⟨go, gc, hcs, hgc, hgr⟩ := hrows 0 h0
    rw [Nat.zero_mul, Nat.add_zero] at hcs
    rw [head0 h0, h15]
    refine v29_items p s W a (D' + 1) er f.name f.nul f.width f.id f.index fb fO f.kids.length fc f.kids[0] go gc hcs (hE.hS fb hSb) ⟨h0, hfc⟩ hR hnul _ fun u hu hr => ?_
    exact items66 p s u a (D' + 1) er _ _ _ _ _ _ _ _ _ _ (fun W2 k h2 hr2 => HK u hu D' rfl f.kids[0] (List.getElem_mem h0) go gc hgc hgr W2 k h2 hr2) hr
  by_cases h17 : f.kind = 17
  · rw [rdB17 _ f _ hn h17, h17]
    refine v29_parts p s W a D er f.name f.nul f.width f.id f.index fo f.kids.length fc hR hnul _ fun u hu hr => ?_
    cases D with
    | zero =>
      have hz : f.kids = [] := hrow
      rw [hz]
      exact parts68 p s S u a 0 0 er _ [] fo fc (fun b hb => ((hE.kp hp9 hu).hS b hb)) ⟨by simp [big], fun h => absurd rfl h⟩ (fun g hg => by cases hg) (by simp) (fun i h => by simp at h) hr
    | succ D' =>
      exact parts68 p s S u a D' (D' + 1) er _ f.kids fo fc (fun b hb => ((hE.kp hp9 hu).hS b hb)) (hE.row hu hrow) (fun g hg => (hkid g hg).1) hfc (fun i h go gc hgc hgr W2 k h2 hr2 => by
        have hk2 := hu.trans h2 (fun _ _ h => h)
        exact ih D' rfl f.kids[i] W2 k go gc (hE.kp hp9 hk2) ((hE.kp hp9 hu).row h2 hgr) hgc (hkid _ (List.getElem_mem h)).2 hr2) hr
  unfold QB.rdB
  rw [if_neg hn, if_neg h15]
  by_cases h16 : f.kind = 16
  · rw [if_pos h16, lst_map]
    obtain ⟨D', rfl⟩ : ∃ D', D = D' + 1 := by
      cases D with
      | zero => exact absurd hrow (hne (.inr (.inl h16)))
      | succ D' => exact ⟨D', rfl⟩
    obtain ⟨fb, fO, rfl, hSb, hrows⟩ := hrow.2 (hne (.inr (.inl h16)))
    have h0 : 0 < f.kids.length := List.length_pos_iff.2 (hne (.inr (.inl h16)))
    obtain ⟨go, gc, hcs, hgc, hgr⟩ := hrows 0 h0
    rw [Nat.zero_mul, Nat.add_zero] at hcs
    have hw := hwd (.inr h16)
    rw [head0 h0, h16]
    refine v29_span p s W a (D' + 1) er f.name f.nul f.width f.id f.index fb fO f.kids.length fc f.kids[0] go gc hcs (hE.hS fb hSb) ⟨h0, hfc⟩ hR hnul _ fun u hu hr => ?_
    have h := span67 p s u a (D' + 1) f.width.toNat (by omega) er (QB.rdV (QF.leafR numB) (D' + 1) f.kids[0]) f.kids[0].name f.kids[0].nul f.kids[0].kind f.kids[0].width f.kids[0].id f.kids[0].index go f.kids[0].kids.length gc (fun W2 k h2 hr2 => HK u hu D' rfl f.kids[0] (List.getElem_mem h0) go gc hgc hgr W2 k h2 hr2) hr
    rw [Int.toNat_of_nonneg hw.1] at h
    exact h
  rw [if_neg h16]
  rw [if_neg h17]
  by_cases h18 : f.kind = 18
  · rw [if_pos h18, h18]
    refine v29_choice p s W a (D + 1) er f.name f.nul f.width f.id f.index fo f.kids.length fc hR hnul _ fun u hu hr => ?_
    cases D with
    | zero =>
      have hz : f.kids = [] := hrow
      rw [hz]
      exact choice69 p s S u a 0 0 er _ [] fo fc (fun b hb => ((hE.kp hp9 hu).hS b hb)) ⟨by simp [big], fun h => absurd rfl h⟩ (by simp) (fun i h => by simp at h) hr
    | succ D' =>
      exact choice69 p s S u a D' (D' + 1) er _ f.kids fo fc (fun b hb => ((hE.kp hp9 hu).hS b hb)) (hE.row hu hrow) hfc (fun i h go gc hgc hgr W2 k h2 hr2 => by
        have hk2 := hu.trans h2 (fun _ _ h => h)
        exact ih D' rfl f.kids[i] W2 k go gc (hE.kp hp9 hk2) ((hE.kp hp9 hu).row h2 hgr) hgc (hkid _ (List.getElem_mem h)).2 hr2) hr
  rw [if_neg h18]
  by_cases h19 : f.kind = 19 ∨ f.kind = 20
  · rw [if_pos h19]
    have hne' : f.kids ≠ [] := hne (.inr (.inr h19))
    obtain ⟨D', rfl⟩ : ∃ D', D = D' + 1 := by
      cases D with
      | zero => exact absurd hrow hne'
      | succ D' => exact ⟨D', rfl⟩
    obtain ⟨fb, fO, rfl, hSb, hrows⟩ := hrow.2 hne'
    have h0 : 0 < f.kids.length := List.length_pos_iff.2 hne'
    obtain ⟨go, gc, hcs, hgc, hgr⟩ := hrows 0 h0
    rw [Nat.zero_mul, Nat.add_zero] at hcs
    rw [head0 h0]
    have hL : ∀ u, Keeps W u (fun z => z = p) → Rd u p s a er → Calls Tryz.prog 29 #[.pointer (some ⟨p, 0, none⟩), .agg #[.string f.kids[0].name, .bool f.kids[0].nul, .int .i64 f.kids[0].kind, .int .i64 f.kids[0].width, .int .i64 f.kids[0].id, .int .i64 f.kids[0].index, .slice go f.kids[0].kids.length gc]] u (VaA u p s er (D' + 1) (QB.rdV (QF.leafR numB) (D' + 1) f.kids[0] (s.data.toList.drop a))) := fun u hu hr => HK u hu D' rfl f.kids[0] (List.getElem_mem h0) go gc hgc hgr u a (Keeps.refl _ _) hr
    rcases h19 with h19 | h19
    · rw [h19]
      exact (v29_in19 p s W a (D' + 1) er f.name f.nul f.width f.id f.index fb fO f.kids.length fc f.kids[0] go gc hcs (hE.hS fb hSb) ⟨h0, hfc⟩ hR hnul _ hL).mono fun e w' h => h.more
    · rw [h19]
      exact (v29_in20 p s W a (D' + 1) er f.name f.nul f.width f.id f.index fb fO f.kids.length fc f.kids[0] go gc hcs (hE.hS fb hSb) ⟨h0, hfc⟩ hR hnul _ hL).mono fun e w' h => h.more
  rw [if_neg h19]
  by_cases h12 : f.kind = 12
  · rw [leaf12 f _ h12, h12]
    refine v29_text p s W a (D + 1) er f.name f.nul f.width f.id f.index fo f.kids.length fc hR hnul _ (fun l t h => ?_) fun u hu hr => letters63 p hp9 s u a er (hE.kp hp9 hu).tb (hE.kp hp9 hu).ut hr
    cases ht : QB.takes [34] (s.data.toList.drop a) with
    | none => rw [ht] at h; cases h
    | some s1 =>
      rw [ht] at h
      have h1 := rdL_len h
      have h2 := congrArg List.length (QB.takes_some ht)
      simp only [List.length_append, List.length_drop, sz_list, List.length_cons, List.length_nil] at h2
      omega
  by_cases h13 : f.kind = 13
  · rw [leaf13 f _ h13, h13]
    refine v29_bytes p s W a (D + 1) er f.name f.nul f.width f.id f.index fo f.kids.length fc hR hnul _ (fun l t h => ?_) fun u hu hr => digits64 p s u a er hr
    cases ht : QB.takes [120, 34] (s.data.toList.drop a) with
    | none => rw [ht] at h; cases h
    | some s1 =>
      rw [ht] at h
      have h1 := hex_len' h
      have h2 := congrArg List.length (QB.takes_some ht)
      simp only [List.length_append, List.length_drop, sz_list, List.length_cons, List.length_nil] at h2
      omega
  by_cases h14 : f.kind = 14
  · have hw := hwd (.inl h14)
    rw [leaf14 f _ h14, h14]
    refine v29_fixed p s W a (D + 1) er f.name f.nul f.width f.id f.index fo f.kids.length fc hR hnul _ (fun l t h => ?_) fun u hu hr => fixed65 p s u a er f.width hw hr
    cases ht : QB.takes [120, 34] (s.data.toList.drop a) with
    | none => rw [ht] at h; cases h
    | some s1 =>
      rw [ht, Option.bind_some] at h
      cases hx : QF.rdHex s1 with
      | none => rw [hx] at h; cases h
      | some x =>
        rw [hx, Option.bind_some] at h
        split at h
        · cases h
        · cases h
          have h1 := hex_len' hx
          have h2 := congrArg List.length (QB.takes_some ht)
          simp only [List.length_append, List.length_drop, sz_list, List.length_cons, List.length_nil] at h2
          omega
  · have h11 : f.kind ≤ 11 := by omega
    rw [leafN f _ h11, dropW]
    exact v29_num p s W a (a + ((s.data.toList.drop a).takeWhile QB.rowB).length) (D + 1) (takeW_le s a hap _) er f.name f.nul f.kind f.width f.id f.index ⟨hk.1, h11⟩ fo f.kids.length fc hR hnul _ (fun n h => numO_64 h) fun u hu hr => number70 p s u a er f.kind ⟨hk.1, h11⟩ (hE.kp hp9 hu).tb hr
theorem value29 (S : Nat → Prop) (p : Nat) (hp9 : 9 ≤ p) (s : ByteArray) (er : Int) : ∀ (D : Nat) (f : FT) (W : World) (a : Nat) (fo : Option Addr) (fc : Nat), EnR S p W → RowAt S W D fo f.kids → f.kids.length ≤ fc → okR (D + 1) f → Rd W p s a er →
    Calls Tryz.prog 29 #[.pointer (some ⟨p, 0, none⟩), .agg #[.string f.name, .bool f.nul, .int .i64 f.kind, .int .i64 f.width, .int .i64 f.id, .int .i64 f.index, .slice fo f.kids.length fc]] W (VaA W p s er (D + 1) (QB.rdV (QF.leafR numB) (D + 1) f (s.data.toList.drop a))) := by
  intro D
  induction D with
  | zero => exact fun f W a fo fc => val29_step S p hp9 s er 0 (fun D' e => by omega) f W a fo fc
  | succ D ih => exact fun f W a fo fc => val29_step S p hp9 s er (D + 1) (fun D' e => by obtain rfl : D' = D := (by omega); exact ih) f W a fo fc
/-! ### Parse 12 -/
/-- what Parse tells -/
def ParA (W : World) (s : ByteArray) (d : Nat) (R : Option VT) (e : Ending) (W' : World) : Prop :=
  Gr W W' ∧ match R with
    | some v => ∃ val, e = .returned (.tuple #[val, .int .i64 0, .int .i64 0]) ∧ VV d W W' v val
    | none => ∃ val er a, e = .returned (.tuple #[val, .int .i64 er, .int .i64 a]) ∧ AnyV val ∧ er ≠ 0 ∧ 0 ≤ a ∧ a ≤ (s.size : Int)
def parR (mb : Bool) (D : Nat) (f : FT) (s : ByteArray) : Option VT := if mb = true ∧ s.size ≤ 65536 then (match QB.rdV (QF.leafR numB) (D + 1) f s.data.toList with
  | some (v, []) => some v
  | _ => none) else none
theorem results_cell3 {fn : Func} {p u v : Tmp} {ty : TypeId} (h : fn.results = #[.cell p ty, .tmp u, .tmp v]) (tmps : Array Value) (P : Program) (w : World) :
    (results fn tmps).run P w =
      ((asAddr (tmps.getD p undef)).run P w).andThen fun a w₁ => ((loadVar ty a).run P w₁).andThen fun x w₂ => .ok (.tuple #[x, tmps.getD u undef, tmps.getD v undef]) w₂ := by
  simp only [results, h]
  simp [Sem.run_bind, Result.andThen]
theorem res12 (w : World) (b : Nat) (v0 v1 v2 v3 : Value) (x y : Int) (tmps : Array Value) (h4 : tmps.getD 4 undef = .pointer (some ⟨b, 0, none⟩)) (h5 : tmps.getD 5 undef = .int .i64 x) (h6 : tmps.getD 6 undef = .int .i64 y) (h : w.heap[b]? = some (.cells #[v0, v1, v2, v3] 29)) : (results Tryz.f12 tmps).run Tryz.prog w = .ok (.tuple #[.agg #[v0, v1, v2, v3], .int .i64 x, .int .i64 y]) w := by
  obtain ⟨q0, q1, q2, q3, -⟩ := blk4 h
  rw [results_cell3 rfl, h4, h5, h6]
  go_simp
theorem gr_new {W w : World} {b : Nat} (h : Gr W w) (hb : W.heap.size ≤ b) (v0 v1 v2 v3 : Value) : Gr W (set4 w b v0 v1 v2 v3) :=
  (((h.setCell (p := ⟨b, 0, none⟩) (fun q => absurd q (by show ¬ b < _; omega)) v0).setCell (p := ⟨b, 1, none⟩) (fun q => absurd q (by show ¬ b < _; omega)) v1).setCell (p := ⟨b, 2, none⟩) (fun q => absurd q (by show ¬ b < _; omega)) v2).setCell (p := ⟨b, 3, none⟩) (fun q => absurd q (by show ¬ b < _; omega)) v3
theorem parse12_no (f : FT) (fo : Option Addr) (fc : Nat) (s : ByteArray) (W : World) (D : Nat) (mb : Bool) (h21 : ∀ u, Gr W u → Calls Tryz.prog 21 #[.agg #[.string f.name, .bool f.nul, .int .i64 f.kind, .int .i64 f.width, .int .i64 f.id, .int .i64 f.index, .slice fo f.kids.length fc]] u fun e w' => e = .returned (.bool mb) ∧ Gr u w') (hno : mb = false ∨ 65536 < s.size) :
    Calls Tryz.prog 12 #[.agg #[.string f.name, .bool f.nul, .int .i64 f.kind, .int .i64 f.width, .int .i64 f.id, .int .i64 f.index, .slice fo f.kids.length fc], .string s] W (ParA W s (D + 1) (parR mb D f s)) := by
  have hP : parR mb D f s = none := by
    unfold parR
    rw [if_neg]
    rintro ⟨h1, h2⟩
    rcases hno with h | h
    · rw [h] at h1; cases h1
    · omega
  rw [hP]
  clear hP
  obtain ⟨A2, hA2⟩ : ∃ A2, (W.alloc (.cells #[.string f.name, .bool f.nul, .int .i64 f.kind, .int .i64 f.width, .int .i64 f.id, .int .i64 f.index, .slice fo f.kids.length fc] 26)).alloc (.cells #[.bool false, .int .i64 0, .string ⟨#[]⟩, .slice none 0 0] 29) = A2 := ⟨_, rfl⟩
  have hGA : Gr W A2 := by rw [← hA2]; exact (gr_alloc W _).trans (gr_alloc _ _) (fun _ _ h => h)
  obtain ⟨hb1, hb0⟩ : A2.heap[W.heap.size]? = some (.cells #[.string f.name, .bool f.nul, .int .i64 f.kind, .int .i64 f.width, .int .i64 f.id, .int .i64 f.index, .slice fo f.kids.length fc] 26) ∧ A2.heap[W.heap.size + 1]? = some (.cells #[.bool false, .int .i64 0, .string ⟨#[]⟩, .slice none 0 0] 29) := by
    have e1 := heap_alloc_new W (.cells #[.string f.name, .bool f.nul, .int .i64 f.kind, .int .i64 f.width, .int .i64 f.id, .int .i64 f.index, .slice fo f.kids.length fc] 26)
    have e2 := heap_alloc_new (W.alloc (.cells #[.string f.name, .bool f.nul, .int .i64 f.kind, .int .i64 f.width, .int .i64 f.id, .int .i64 f.index, .slice fo f.kids.length fc] 26)) (.cells #[.bool false, .int .i64 0, .string ⟨#[]⟩, .slice none 0 0] 29)
    rw [show (W.alloc (.cells #[.string f.name, .bool f.nul, .int .i64 f.kind, .int .i64 f.width, .int .i64 f.id, .int .i64 f.index, .slice fo f.kids.length fc] 26)).heap.size = W.heap.size + 1 by simp] at e2
    rw [← hA2]
    exact ⟨((gr_alloc _ _).block _ (lt_of_heap e1) id).trans e1, e2⟩
  have HKB : Hid (∀ u, Gr A2 u → u.heap[W.heap.size + 1]? = some (.cells #[.bool false, .int .i64 0, .string ⟨#[]⟩, .slice none 0 0] 29)) := fun u hk => (hk.block _ (lt_of_heap hb0) id).trans hb0
  have HFB : Hid (∀ u, Gr A2 u → u.cell? ⟨W.heap.size, 0, none⟩ = some (.string f.name) ∧ u.cell? ⟨W.heap.size, 1, none⟩ = some (.bool f.nul) ∧ u.cell? ⟨W.heap.size, 2, none⟩ = some (.int .i64 f.kind) ∧ u.cell? ⟨W.heap.size, 3, none⟩ = some (.int .i64 f.width) ∧ u.cell? ⟨W.heap.size, 4, none⟩ = some (.int .i64 f.id) ∧ u.cell? ⟨W.heap.size, 5, none⟩ = some (.int .i64 f.index) ∧ u.cell? ⟨W.heap.size, 6, none⟩ = some (.slice fo f.kids.length fc)) := fun u hk => by
    have h := (hk.block _ (lt_of_heap hb1) id).trans hb1
    simp [World.cell?, h]
  obtain ⟨e0, e1, e2, e3, e4, e5, e6⟩ := HFB.out A2 (Keeps.refl _ _)
  have H21 := hidM h21
  have HGA := hidM hGA
  clear h21 hGA hb1 hb0
  cases mb with
  | false =>
    clear hno
    go_enter Tryz.func12, Tryz.ntmps12
    go_wp2_with (go_at_call 21; refine (H21.out _ HGA.out).mono ?_; rintro e u1 ⟨rfl, hg1⟩; have HG1 := hidM hg1; have HKA : Hid (Gr A2 u1) := hg1; have hb5 := HKB.out u1 hg1; obtain ⟨q0, q1, q2, q3, z0, z1, z2, z3⟩ := blk4 hb5; have HB5 := hidM hb5; obtain ⟨e0, e1, e2, e3, e4, e5, e6⟩ := HFB.out u1 hg1; clear hg1 hb5; simp only [])
    refine bodyPost_ret (res12 _ (W.heap.size + 1) _ _ _ _ 5 0 _ rfl rfl rfl (set4_blk HB5.out _ _ _ _)) rfl ?_
    exact ⟨gr_new (HGA.out.trans HG1.out (fun _ _ h => h)) (by omega) _ _ _ _, _, 5, 0, rfl, ⟨_, _, _, _, _, _, rfl⟩, by decide, by omega, by omega⟩
  | true =>
    have hl : (65536 : Int) < (s.size : Int) := by rcases hno with h | h; cases h; omega
    clear hno
    go_enter Tryz.func12, Tryz.ntmps12
    go_wp2_with (go_at_call 21; refine (H21.out _ HGA.out).mono ?_; rintro e u1 ⟨rfl, hg1⟩; have HG1 := hidM hg1; have HKA : Hid (Gr A2 u1) := hg1; have hb5 := HKB.out u1 hg1; obtain ⟨q0, q1, q2, q3, z0, z1, z2, z3⟩ := blk4 hb5; have HB5 := hidM hb5; obtain ⟨e0, e1, e2, e3, e4, e5, e6⟩ := HFB.out u1 hg1; clear hg1 hb5; simp only [])
    refine bodyPost_ret (res12 _ (W.heap.size + 1) _ _ _ _ 4 0 _ rfl rfl rfl (set4_blk HB5.out _ _ _ _)) rfl ?_
    exact ⟨gr_new (HGA.out.trans HG1.out (fun _ _ h => h)) (by omega) _ _ _ _, _, 4, 0, rfl, ⟨_, _, _, _, _, _, rfl⟩, by decide, by omega, by omega⟩
/-! ### Parse 12 where a text is read -/
theorem parse12_none (f : FT) (fo : Option Addr) (fc : Nat) (s : ByteArray) (W : World) (D : Nat) (h21 : ∀ u, Gr W u → Calls Tryz.prog 21 #[.agg #[.string f.name, .bool f.nul, .int .i64 f.kind, .int .i64 f.width, .int .i64 f.id, .int .i64 f.index, .slice fo f.kids.length fc]] u fun e w' => e = .returned (.bool true) ∧ Gr u w') (hs : s.size ≤ 65536) (ho : QB.rdV (QF.leafR numB) (D + 1) f s.data.toList = none)
    (hV : ∀ B p, Gr W B → W.heap.size + 1 + 1 ≤ p → Rd B p s 0 0 → Calls Tryz.prog 29 #[.pointer (some ⟨p, 0, none⟩), .agg #[.string f.name, .bool f.nul, .int .i64 f.kind, .int .i64 f.width, .int .i64 f.id, .int .i64 f.index, .slice fo f.kids.length fc]] B (VaA B p s 0 (D + 1) (QB.rdV (QF.leafR numB) (D + 1) f s.data.toList))) :
    Calls Tryz.prog 12 #[.agg #[.string f.name, .bool f.nul, .int .i64 f.kind, .int .i64 f.width, .int .i64 f.id, .int .i64 f.index, .slice fo f.kids.length fc], .string s] W (ParA W s (D + 1) (parR true D f s)) := by
  have hP : parR true D f s = none := by
    unfold parR
    rw [if_pos ⟨rfl, hs⟩, ho]
  rw [hP]
  clear hP
  obtain ⟨A2, hA2⟩ : ∃ A2, (W.alloc (.cells #[.string f.name, .bool f.nul, .int .i64 f.kind, .int .i64 f.width, .int .i64 f.id, .int .i64 f.index, .slice fo f.kids.length fc] 26)).alloc (.cells #[.bool false, .int .i64 0, .string ⟨#[]⟩, .slice none 0 0] 29) = A2 := ⟨_, rfl⟩
  have hGA : Gr W A2 := by rw [← hA2]; exact (gr_alloc W _).trans (gr_alloc _ _) (fun _ _ h => h)
  have hsz : A2.heap.size = W.heap.size + 1 + 1 := by rw [← hA2]; simp
  obtain ⟨hb1, hb0⟩ : A2.heap[W.heap.size]? = some (.cells #[.string f.name, .bool f.nul, .int .i64 f.kind, .int .i64 f.width, .int .i64 f.id, .int .i64 f.index, .slice fo f.kids.length fc] 26) ∧ A2.heap[W.heap.size + 1]? = some (.cells #[.bool false, .int .i64 0, .string ⟨#[]⟩, .slice none 0 0] 29) := by
    have e1 := heap_alloc_new W (.cells #[.string f.name, .bool f.nul, .int .i64 f.kind, .int .i64 f.width, .int .i64 f.id, .int .i64 f.index, .slice fo f.kids.length fc] 26)
    have e2 := heap_alloc_new (W.alloc (.cells #[.string f.name, .bool f.nul, .int .i64 f.kind, .int .i64 f.width, .int .i64 f.id, .int .i64 f.index, .slice fo f.kids.length fc] 26)) (.cells #[.bool false, .int .i64 0, .string ⟨#[]⟩, .slice none 0 0] 29)
    rw [show (W.alloc (.cells #[.string f.name, .bool f.nul, .int .i64 f.kind, .int .i64 f.width, .int .i64 f.id, .int .i64 f.index, .slice fo f.kids.length fc] 26)).heap.size = W.heap.size + 1 by simp] at e2
    rw [← hA2]
    exact ⟨((gr_alloc _ _).block _ (lt_of_heap e1) id).trans e1, e2⟩
  have HKB : Hid (∀ u q, W.heap.size + 1 + 1 ≤ q → Keeps A2 u (fun z => z = q) → u.heap[W.heap.size + 1]? = some (.cells #[.bool false, .int .i64 0, .string ⟨#[]⟩, .slice none 0 0] 29)) := fun u q hq hk => (hk.block _ (lt_of_heap hb0) (fun e => by omega)).trans hb0
  have HFB : Hid (∀ u, Gr A2 u → u.cell? ⟨W.heap.size, 0, none⟩ = some (.string f.name) ∧ u.cell? ⟨W.heap.size, 1, none⟩ = some (.bool f.nul) ∧ u.cell? ⟨W.heap.size, 2, none⟩ = some (.int .i64 f.kind) ∧ u.cell? ⟨W.heap.size, 3, none⟩ = some (.int .i64 f.width) ∧ u.cell? ⟨W.heap.size, 4, none⟩ = some (.int .i64 f.id) ∧ u.cell? ⟨W.heap.size, 5, none⟩ = some (.int .i64 f.index) ∧ u.cell? ⟨W.heap.size, 6, none⟩ = some (.slice fo f.kids.length fc)) := fun u hk => by
    have h := (hk.block _ (lt_of_heap hb1) id).trans hb1
    simp [World.cell?, h]
  obtain ⟨e0, e1, e2, e3, e4, e5, e6⟩ := HFB.out A2 (Keeps.refl _ _)
  have H21 := hidM h21
  have HGA := hidM hGA
  have HSL := hidM hs
  rw [ho] at hV
  have HV : Hid (∀ B p, Gr W B → A2.heap.size ≤ p → Rd B p s 0 0 → Calls Tryz.prog 29 #[.pointer (some ⟨p, 0, none⟩), .agg #[.string f.name, .bool f.nul, .int .i64 f.kind, .int .i64 f.width, .int .i64 f.id, .int .i64 f.index, .slice fo f.kids.length fc]] B (VaA B p s 0 (D + 1) none)) := fun B p h1 h2 h3 => hV B p h1 (by omega) h3
  have hsI : ¬ (65536 : Int) < (s.size : Int) := by omega
  replace HV : Hid (∀ B p, Gr W B → W.heap.size ≤ p → Rd B p s 0 0 → A2.heap.size ≤ p → Calls Tryz.prog 29 #[.pointer (some ⟨p, 0, none⟩), .agg #[.string f.name, .bool f.nul, .int .i64 f.kind, .int .i64 f.width, .int .i64 f.id, .int .i64 f.index, .slice fo f.kids.length fc]] B fun e W' => Keeps B W' (fun z => z = p) ∧ (∃ val, e = .returned (.tuple #[val, .bool false]) ∧ AnyV val) ∧ Bad W' p s) := fun B p h1 _ h3 h4 => HV.out B p h1 h4 h3
  clear h21 hGA hb1 hb0 hV ho
  go_enter Tryz.func12, Tryz.ntmps12
  go_wp2_with (first | (go_at_call 29; refine HVC.out.mono ?_; rintro e u2 ⟨hk2, ⟨val, rfl, b', n', x', lo, ln, lc, rfl⟩, ba, be, hne, hbr⟩; obtain ⟨C2, hC2⟩ : ∃ C2, u2.alloc (.cells #[.bool b', .int .i64 n', .string x', .slice lo ln lc] 29) = C2 := ⟨_, rfl⟩; have HGC : Hid (Gr u2 C2) := (by show Gr u2 C2; rw [← hC2]; exact gr_alloc _ _); have HKB2 : Hid (Keeps A2 C2 (fun z => z = u1.heap.size)) := ((gr_kp (HG1.out.trans HGB.out (fun _ _ h => h))).trans hk2 (fun _ _ h => h)).trans (gr_kp HGC.out) (fun _ _ h => h); have HRC := hidM (hbr.gr HGC.out); have HNE := hidM hne; clear hk2 hbr hne; simp only []) | (go_at_call 21; refine (H21.out _ HGA.out).mono ?_; rintro e u1 ⟨rfl, hg1⟩; have HG1 := hidM hg1; obtain ⟨B, hB⟩ : ∃ B, u1.alloc (.cells #[.string s, .int .i64 0, .int .i64 0] 63) = B := ⟨_, rfl⟩; have HGB : Hid (Gr u1 B) := (by show Gr u1 B; rw [← hB]; exact gr_alloc _ _); have HBB : Hid (B.heap[u1.heap.size]? = some (.cells #[.string s, .int .i64 0, .int .i64 0] 63)) := (by show _ = _; rw [← hB]; exact heap_alloc_new u1 _); obtain ⟨e0, e1, e2, e3, e4, e5, e6⟩ := HFB.out B (hg1.trans HGB.out (fun _ _ h => h)); have HRB : Hid (Rd B u1.heap.size s 0 0) := ⟨HBB.out, HSL.out, Nat.zero_le _⟩; have HVC := hidM (HV.out B u1.heap.size (HGA.out.trans (hg1.trans HGB.out (fun _ _ h => h)) (fun _ _ h => h)) (HGA.out.trans hg1 (fun _ _ h => h)).size HRB.out hg1.size); clear hg1; simp only []))
  have hqp : W.heap.size + 1 + 1 ≤ u1.heap.size := by have := HG1.out.size; omega
  have hpb : u1.heap.size ≠ W.heap.size + 1 := by omega
  have hb9 := HKB.out C2 u1.heap.size hqp HKB2.out
  have HB9 := hidM hb9
  obtain ⟨q0, q1, q2, q3, z0, z1, z2, z3⟩ := blk4 hb9
  have HS1 : Hid (C2.drew.cell? ⟨u1.heap.size, 1, none⟩ = some (.int .i64 (ba : Int)) ∧ C2.drew.cell? ⟨u1.heap.size, 2, none⟩ = some (.int .i64 be)) := (HRC.out.gr gr_drew).cells.2
  have HS2 : Hid ((set4 C2 (W.heap.size + 1) (.bool false) (.int .i64 0) (.string ⟨#[]⟩) (.slice none 0 0)).drew.cell? ⟨u1.heap.size, 1, none⟩ = some (.int .i64 (ba : Int)) ∧ (set4 C2 (W.heap.size + 1) (.bool false) (.int .i64 0) (.string ⟨#[]⟩) (.slice none 0 0)).drew.cell? ⟨u1.heap.size, 2, none⟩ = some (.int .i64 be)) := ((set4_rd HRC.out hpb _ _ _ _).gr gr_drew).cells.2
  have HBA : Hid (ba ≤ s.size) := HRC.out.pos
  have HGW : Hid (Gr W C2) := HGA.out.trans HKB2.out (fun j hj e => by omega)
  clear hb9
  go_region_held3 (fun w' => w'.cell? ⟨u1.heap.size, 1, none⟩ = some (.int .i64 (ba : Int)) ∧ w'.cell? ⟨u1.heap.size, 2, none⟩ = some (.int .i64 be)) (first | exact HS2.out | exact HS1.out) (fail)
  all_goals
    go_wp2_with fail
    refine bodyPost_ret (res12 _ (W.heap.size + 1) _ _ _ _ be (ba : Int) _ rfl rfl rfl (set4_blk HB9.out _ _ _ _)) rfl ?_
    exact ⟨(gr_new HGW.out (by omega) _ _ _ _).trans gr_drew (fun _ _ h => h), _, be, (ba : Int), rfl, ⟨_, _, _, _, _, _, rfl⟩, HNE.out, by omega, by have := HBA.out; omega⟩
end Go.Proofs.YtfoifmacobldbaaGreatDoor.Kit
