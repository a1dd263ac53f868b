import Derived.Test.YtcfdkadhclickaaDoorXZ
namespace Go.Proofs.YtcfdkadhclickaaDoor.Kit
set_option linter.unusedVariables false

/-! ### zero values as data -/
def capM (x : Int) : Int := if x ≤ 4194304 then x else 4194305
theorem capM_le (x : Int) : capM x ≤ 4194305 := by unfold capM; split <;> omega
theorem capM_pos {x : Int} (h : 16 ≤ x) : 16 ≤ capM x := by unfold capM; split <;> omega
theorem capM_id {x : Int} (h : x ≤ 4194305) : capM x = x := by unfold capM; split <;> omega
def zWB (r : FT → Int) (f : FT) : Int :=
  if f.nul = true then 16 else if f.kind = 14 then capM (16 + f.width) else if f.kind = 16 then capM (16 + f.width * r f.kids.head!) else if f.kind = 17 then capM (16 + (f.kids.map r).sum)
  else if f.kind = 18 then capM (16 + r f.kids.head!) else if f.kind = 19 ∨ f.kind = 20 then capM (r f.kids.head!) else 16
def zW : Nat → FT → Int
  | 0, _ => 16
  | n + 1, f => zWB (zW n) f
def zT (n : Nat) : ByteArray := ⟨(List.replicate n 0).toArray⟩
theorem zT_size (n : Nat) : (zT n).size = n := by simp [zT, ByteArray.size]
def zVB (r : FT → VT) (f : FT) : VT :=
  if f.nul = true then .mk true 0 ⟨#[]⟩ [] else if f.kind = 14 then .mk false 0 (zT f.width.toNat) [] else if f.kind = 16 then .mk false 0 ⟨#[]⟩ (List.replicate f.width.toNat (r f.kids.head!)) else if f.kind = 17 then .mk false 0 ⟨#[]⟩ (f.kids.map r)
  else if f.kind = 18 then .mk false 0 ⟨#[]⟩ [r f.kids.head!] else if f.kind = 19 ∨ f.kind = 20 then r f.kids.head! else .mk false 0 ⟨#[]⟩ []
def zV : Nat → FT → VT
  | 0, _ => .mk false 0 ⟨#[]⟩ []
  | n + 1, f => zVB (zV n) f
theorem tab_kid18 {f : FT} (h : tableB f = true) (k : f.kind = 18) : f.kids ≠ [] := by
  unfold tableB at h
  intro e
  rw [e] at h
  simp [k, leastK] at h
theorem width14 {f : FT} (h : tableB f = true) (k : f.kind = 14) : 1 ≤ f.width ∧ f.width ≤ 4096 := by
  unfold tableB widthB at h
  rw [k] at h
  simp at h
  omega
theorem kid_ne {f : FT} (h : tableB f = true) (k : f.kind = 16 ∨ f.kind = 18 ∨ f.kind = 19 ∨ f.kind = 20) : f.kids ≠ [] := by
  rcases k with k | k | k | k
  · exact tab_kid h (.inr (.inl k))
  · exact tab_kid18 h k
  · exact tab_kid h (.inr (.inr (.inl k)))
  · exact tab_kid h (.inr (.inr (.inr k)))
theorem head_mem {l : List FT} (h : l ≠ []) : l.head! ∈ l := by
  cases l with
  | nil => exact absurd rfl h
  | cons a b => exact List.mem_cons_self
theorem sum_ge {l : List Int} (h : ∀ x ∈ l, 16 ≤ x) : 0 ≤ l.sum := sum_nonneg fun x hx => by have := h x hx; omega
theorem zW_pos : ∀ (n : Nat) (f : FT), okF n f → 16 ≤ zW n f ∧ zW n f ≤ 4194305
  | 0, f, h => h.elim
  | n + 1, f, h => by
    have ih := zW_pos n
    have hk : f.kids ≠ [] → 16 ≤ zW n f.kids.head! ∧ zW n f.kids.head! ≤ 4194305 := fun hn => ih _ (h.2 _ (head_mem hn))
    have ok : ∀ x : Int, 16 ≤ x → 16 ≤ capM x ∧ capM x ≤ 4194305 := fun x hx => ⟨capM_pos hx, capM_le x⟩
    rw [zW, zWB]
    split
    · omega
    split
    · rename_i k; have := width14 h.1 k; exact ok _ (by omega)
    split
    · rename_i k
      have h1 := width16 h.1 k
      have h2 := hk (kid_ne h.1 (.inl k))
      have : 0 ≤ f.width * zW n f.kids.head! := Int.mul_nonneg (by omega) (by omega)
      exact ok _ (by omega)
    split
    · have : 0 ≤ (f.kids.map (zW n)).sum := sum_ge fun x hx => by
        obtain ⟨y, hy, rfl⟩ := List.mem_map.1 hx
        exact (ih y (h.2 y hy)).1
      exact ok _ (by omega)
    split
    · rename_i k; have h2 := hk (kid_ne h.1 (.inr (.inl k))); exact ok _ (by omega)
    split
    · rename_i k; have h2 := hk (kid_ne h.1 (.inr (.inr k))); exact ok _ h2.1
    · omega
theorem vdeep_more : ∀ {d e : Nat} {l : List VT}, d ≤ e → vdeep d l → vdeep e l
  | 0, 0, _, _, h => h
  | 0, e + 1, l, _, h => by have : l = [] := h; subst this; exact fun v hv => by cases hv
  | d + 1, 0, _, h, _ => by omega
  | d + 1, e + 1, l, hle, h => fun v hv => vdeep_more (by omega) (h v hv)
theorem wS_deep : ∀ {d e : Nat} {v : VT}, vdeep d v.list → d ≤ e → wS e v = wS d v
  | 0, 0, _, _, _ => rfl
  | 0, e + 1, v, h, _ => by
    have hl : v.list = [] := h
    rw [wS, wS, hl]
    simp
  | d + 1, 0, _, _, h => by omega
  | d + 1, e + 1, v, h, hle => by
    rw [wS, wS]
    congr 2
    exact List.map_congr_left fun x hx => wS_deep (h x hx) (by omega)
theorem zV_deep : ∀ (n : Nat) (f : FT), vdeep n (zV n f).list
  | 0, f => rfl
  | n + 1, f => by
    have ih := zV_deep n
    have nil : vdeep (n + 1) ([] : List VT) := fun v hv => by cases hv
    rw [zV, zVB]
    split
    · exact nil
    split
    · exact nil
    split
    · intro v hv
      obtain rfl := List.eq_of_mem_replicate hv
      exact ih _
    split
    · intro v hv
      obtain ⟨y, hy, rfl⟩ := List.mem_map.1 hv
      exact ih _
    split
    · intro v hv
      obtain rfl := List.mem_singleton.1 hv
      exact ih _
    split
    · exact vdeep_more (by omega) (ih _)
    · exact nil
theorem wS_nil {d : Nat} {a : Bool} {b : Int} {t : ByteArray} : wS d (.mk a b t []) = 16 + t.size := by
  cases d with
  | zero => rfl
  | succ d => rw [wS]; simp [VT.text, VT.list]
theorem sum_replicate (n : Nat) (x : Int) : (List.replicate n x).sum = n * x := by
  induction n with
  | zero => simp
  | succ n ih => rw [List.replicate_succ, List.sum_cons, ih]; rw [Int.natCast_succ, Int.add_mul]; omega
/-- the zero value weighs what is told of it -/
theorem zV_weight : ∀ (n : Nat) (f : FT), okF n f → zW n f ≤ 4194304 → wS n (zV n f) = zW n f
  | 0, f, h, _ => h.elim
  | n + 1, f, h, hw => by
    have ih := zV_weight n
    have leaf : ∀ x : Int, capM x ≤ 4194304 → x ≤ 4194304 ∧ capM x = x := fun x hx => by unfold capM at hx ⊢; split at hx <;> simp_all
    rw [zW, zWB] at hw ⊢
    rw [zV, zVB]
    by_cases h1 : f.nul = true
    · rw [if_pos h1] at hw ⊢; rw [if_pos h1]; rw [wS_nil]; rfl
    rw [if_neg h1] at hw ⊢; rw [if_neg h1]
    by_cases h2 : f.kind = 14
    · rw [if_pos h2] at hw ⊢; rw [if_pos h2]
      have := width14 h.1 h2
      rw [wS_nil, zT_size, (leaf _ hw).2]; omega
    rw [if_neg h2] at hw ⊢; rw [if_neg h2]
    by_cases h3 : f.kind = 16
    · rw [if_pos h3] at hw ⊢; rw [if_pos h3]
      have hww := width16 h.1 h3
      have hm := h.2 _ (head_mem (kid_ne h.1 (.inl h3)))
      have hp := zW_pos n _ hm
      obtain ⟨l1, l2⟩ := leaf _ hw
      have hle : zW n f.kids.head! ≤ f.width * zW n f.kids.head! := by
        have := Int.mul_le_mul_of_nonneg_right hww.1 (show 0 ≤ zW n f.kids.head! by omega)
        omega
      rw [l2, wS]
      simp only [VT.text, VT.list, List.map_replicate, sum_replicate]
      rw [ih _ hm (by omega)]
      have : ((f.width.toNat : Nat) : Int) = f.width := by omega
      rw [this]
      show (16 : Int) + ((0 : Nat) : Int) + _ = _
      omega
    rw [if_neg h3] at hw ⊢; rw [if_neg h3]
    by_cases h4 : f.kind = 17
    · rw [if_pos h4] at hw ⊢; rw [if_pos h4]
      obtain ⟨l1, l2⟩ := leaf _ hw
      rw [l2, wS]
      simp only [VT.text, VT.list, List.map_map]
      have key : ∀ l : List FT, (∀ k ∈ l, okF n k) → (l.map (zW n)).sum ≤ 4194304 → (l.map (wS n ∘ zV n)).sum = (l.map (zW n)).sum := by
        intro l hl hs
        induction l with
        | nil => rfl
        | cons x l ihl =>
          simp only [List.map_cons, List.sum_cons] at hs ⊢
          have p1 := zW_pos n x (hl x (by simp))
          have p2 : 0 ≤ (l.map (zW n)).sum := sum_ge fun y hy => by
            obtain ⟨z, hz, rfl⟩ := List.mem_map.1 hy
            exact (zW_pos n z (hl z (by simp [hz]))).1
          rw [ihl (fun k hk => hl k (by simp [hk])) (by omega)]
          show wS n (zV n x) + _ = _
          rw [ih x (hl x (by simp)) (by omega)]
      rw [key _ h.2 (by omega)]
      show (16 : Int) + ((0 : Nat) : Int) + _ = _
      omega
    rw [if_neg h4] at hw ⊢; rw [if_neg h4]
    by_cases h5 : f.kind = 18
    · rw [if_pos h5] at hw ⊢; rw [if_pos h5]
      have hm := h.2 _ (head_mem (kid_ne h.1 (.inr (.inl h5))))
      obtain ⟨l1, l2⟩ := leaf _ hw
      rw [l2, wS]
      simp only [VT.text, VT.list, List.map_cons, List.map_nil, List.sum_cons, List.sum_nil]
      rw [ih _ hm (by omega)]
      show (16 : Int) + ((0 : Nat) : Int) + _ = _
      omega
    rw [if_neg h5] at hw ⊢; rw [if_neg h5]
    by_cases h6 : f.kind = 19 ∨ f.kind = 20
    · rw [if_pos h6] at hw ⊢; rw [if_pos h6]
      have hm := h.2 _ (head_mem (kid_ne h.1 (.inr (.inr h6))))
      obtain ⟨l1, l2⟩ := leaf _ hw
      rw [l2, wS_deep (zV_deep n _) (show n ≤ n + 1 by omega)]
      exact ih _ hm l1
    · rw [if_neg h6] at hw ⊢; rw [if_neg h6]; rw [wS_nil]; rfl
/-- what a Dict holds is never Nullable -/
def okD : Nat → FT → Prop
  | 0, _ => False
  | n + 1, f => (f.kind = 19 → kid0 f = false) ∧ ∀ k ∈ f.kids, okD n k
theorem okD_of_pre : ∀ (d : Nat) (l : List FT), deep d l → (∀ x ∈ pre d l, x.kind = 19 → kid0 x = false) → ∀ k ∈ l, okD d k
  | 0, l, hd, _, k, hk => by have : l = [] := hd; subst this; cases hk
  | d + 1, l, hd, h, k, hk => by
    have hin : ∀ x ∈ k :: pre d k.kids, x ∈ pre (d + 1) l := fun x hx => List.mem_flatMap.2 ⟨k, hk, hx⟩
    exact ⟨h _ (hin _ (by simp)), okD_of_pre d k.kids (hd k hk) fun x hx => h _ (hin _ (by simp [hx]))⟩
theorem wr_kid {m : Nat} {ahead : Int} {nameR : Bool} {idx i : Int} {tabR nulR inD : Bool} {f2 : Int} {kid tk : Bool} (h : wr m ahead nameR idx i tabR nulR inD f2 kid tk = 0) (hk : f2 = 19) : kid = false := by
  unfold wr at h
  cases kid with
  | false => rfl
  | true =>
    exfalso
    split at h
    · omega
    split at h
    · omega
    split at h
    · omega
    split at h
    · omega
    split at h
    · omega
    split at h
    · omega
    split at h
    · omega
    rw [if_pos ⟨hk, .inl rfl⟩] at h
    omega
theorem AllR.okD {d : Nat} {f : FT} (h : AllR (nodes (d + 1) [f] [] false)) (hd : deep d f.kids) : Kit.okD (d + 1) f := by
  refine okD_of_pre (d + 1) [f] (fun g hg => by rw [List.mem_singleton.1 hg]; exact hd) (fun x hx => ?_) f (by simp)
  rw [← nodes_pre (d + 1) [f] [] false] at hx
  obtain ⟨y, hy, rfl⟩ := List.mem_map.1 hx
  obtain ⟨i, hi, rfl⟩ := List.mem_iff_getElem.1 hy
  exact wr_kid (h i hi)
theorem kid0_head {f : FT} (h : f.kids ≠ []) : kid0 f = f.kids.head!.nul := by
  unfold kid0
  cases hk : f.kids with
  | nil => exact absurd hk h
  | cons a b => rfl
theorem zV_nul : ∀ (n : Nat) (f : FT), okF n f → okN n f → okD n f → (zV n f).nul = true → f.nul = true
  | 0, f, h, _, _, _ => h.elim
  | n + 1, f, h, hn, hd, hv => by
    have ih := zV_nul n
    rw [zV, zVB] at hv
    by_cases h1 : f.nul = true
    · exact h1
    rw [if_neg h1] at hv
    split at hv
    · cases hv
    split at hv
    · cases hv
    split at hv
    · cases hv
    split at hv
    · cases hv
    split at hv
    · rename_i k
      have hne := kid_ne h.1 (.inr (.inr k))
      have hm := head_mem hne
      have hk := ih _ (h.2 _ hm) (hn.2 _ hm) (hd.2 _ hm) hv
      rcases k with k | k
      · have := hd.1 k
        rw [kid0_head hne, hk] at this
        cases this
      · have := hn.1
        unfold nullB at this
        rw [if_neg (by omega), if_neg (by omega), if_pos k] at this
        have e : (f.kids[0]?.map FT.nul).getD false = f.kids.head!.nul := kid0_head hne
        rw [e, hk] at this
        simpa using this
    · cases hv
/-- the zero value fits -/
theorem zV_doc : ∀ (n : Nat) (f : FT), okF n f → okN n f → okD n f → docF n f (zV n f) = true
  | 0, f, h, _, _ => h.elim
  | n + 1, f, h, hn, hd => by
    have ih := zV_doc n
    have hkd := tab_kind h.1
    have hnul := hn.1
    unfold nullB at hnul
    rw [docF, zV]
    unfold zVB
    by_cases h1 : f.nul = true
    · rw [if_pos h1]
      unfold docB
      simp [VT.nul, VT.num, VT.text, VT.list, h1, ByteArray.size]
    rw [if_neg h1]
    have h1' : f.nul = false := by simpa using h1
    have k1 : f.kind ≠ 1 := fun k => by rw [if_pos k] at hnul; exact h1 hnul
    by_cases h2 : f.kind = 14
    · rw [if_pos h2]
      have := width14 h.1 h2
      unfold docB
      rw [if_neg (by simp [VT.nul]), if_neg (by omega), if_neg (by omega), if_pos h2]
      simp only [VT.num, VT.text, VT.list, zT_size, decide_eq_true_eq]
      exact ⟨trivial, trivial, by omega⟩
    rw [if_neg h2]
    by_cases h3 : f.kind = 16
    · rw [if_pos h3]
      have hww := width16 h.1 h3
      have hm := head_mem (kid_ne h.1 (.inl h3))
      unfold docB
      rw [if_neg (by simp [VT.nul]), if_neg (by omega), if_neg (by omega), if_neg h2, if_neg (by omega), if_pos h3, Bool.and_eq_true]
      refine ⟨?_, ?_⟩
      · simp only [VT.num, VT.text, VT.list, List.length_replicate, decide_eq_true_eq]
        exact ⟨trivial, rfl, by omega, by omega⟩
      · simp only [VT.list, List.all_eq_true]
        intro x hx
        obtain rfl := List.eq_of_mem_replicate hx
        exact ih _ (h.2 _ hm) (hn.2 _ hm) (hd.2 _ hm)
    rw [if_neg h3]
    by_cases h4 : f.kind = 17
    · rw [if_pos h4]
      unfold docB
      rw [if_neg (by simp [VT.nul]), if_neg (by omega), if_neg (by omega), if_neg h2, if_neg (by omega), if_neg h3, if_pos h4, Bool.and_eq_true]
      refine ⟨?_, allP2_true (by simp [VT.list]) fun k hf hk => ?_⟩
      · simp only [VT.num, VT.text, VT.list, List.length_map, decide_eq_true_eq]
        exact ⟨trivial, rfl, trivial⟩
      · simp only [VT.list, List.getElem_map]
        exact ih _ (h.2 _ (List.getElem_mem hf)) (hn.2 _ (List.getElem_mem hf)) (hd.2 _ (List.getElem_mem hf))
    rw [if_neg h4]
    by_cases h5 : f.kind = 18
    · rw [if_pos h5]
      have hne := kid_ne h.1 (.inr (.inl h5))
      have hm := head_mem hne
      obtain ⟨h0, he⟩ := head_get hne
      unfold docB
      rw [if_neg (by simp [VT.nul]), if_neg (by omega), if_neg (by omega), if_neg h2, if_neg (by omega), if_neg h3, if_neg h4, if_pos h5, Bool.and_eq_true]
      refine ⟨?_, ?_⟩
      · simp only [VT.num, VT.text, VT.list, List.length_cons, List.length_nil, decide_eq_true_eq]
        exact ⟨rfl, by omega, by omega, trivial⟩
      · have e : f.kids.getD (VT.mk false 0 ⟨#[]⟩ [zV n f.kids.head!]).num.toNat default = f.kids.head! := by
          rw [← he h0]
          show f.kids.getD 0 default = _
          rw [List.getD_eq_getElem?_getD, List.getElem?_eq_getElem h0]
          rfl
        rw [e]
        exact ih _ (h.2 _ hm) (hn.2 _ hm) (hd.2 _ hm)
    rw [if_neg h5]
    by_cases h6 : f.kind = 19 ∨ f.kind = 20
    · rw [if_pos h6]
      have hm := head_mem (kid_ne h.1 (.inr (.inr h6)))
      have ihk := ih _ (h.2 _ hm) (hn.2 _ hm) (hd.2 _ hm)
      by_cases hv : (zV n f.kids.head!).nul = true
      · refine absurd (zV_nul (n + 1) f h hn hd ?_) h1
        rw [zV, zVB, if_neg h1, if_neg h2, if_neg h3, if_neg h4, if_neg h5, if_pos h6]
        exact hv
      · unfold docB
        rw [if_neg hv, if_neg (by omega), if_neg (by omega), if_neg h2, if_neg (by omega), if_neg h3, if_neg h4, if_neg h5, if_pos h6]
        exact ihk
    rw [if_neg h6]
    by_cases h7 : f.kind = 12
    · unfold docB
      rw [if_neg (by simp [VT.nul]), if_pos h7]
      simp only [VT.num, VT.text, VT.list, decide_eq_true_eq]
      exact ⟨trivial, trivial, by decide⟩
    by_cases h8 : f.kind = 13
    · unfold docB
      rw [if_neg (by simp [VT.nul]), if_neg h7, if_pos h8]
      simp [VT.num, VT.list]
    by_cases h9 : f.kind = 15
    · unfold docB
      rw [if_neg (by simp [VT.nul]), if_neg h7, if_neg h8, if_neg h2, if_pos h9]
      simp [VT.num, VT.text, VT.list, ByteArray.size]
    · unfold docB
      rw [if_neg (by simp [VT.nul]), if_neg h7, if_neg h8, if_neg h2, if_neg h9, if_neg h3, if_neg h4, if_neg h5, if_neg h6]
      simp only [VT.num, VT.text, VT.list, decide_eq_true_eq]
      refine ⟨rfl, trivial, by decide, ?_⟩
      have hk : f.kind = 2 ∨ f.kind = 3 ∨ f.kind = 4 ∨ f.kind = 5 ∨ f.kind = 6 ∨ f.kind = 7 ∨ f.kind = 8 ∨ f.kind = 9 ∨ f.kind = 10 ∨ f.kind = 11 := by omega
      rcases hk with k | k | k | k | k | k | k | k | k | k <;> rw [k] <;> decide
end Go.Proofs.YtcfdkadhclickaaDoor.Kit
