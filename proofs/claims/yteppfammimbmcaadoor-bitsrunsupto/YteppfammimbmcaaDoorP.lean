import Derived.Test.YteppfammimbmcaaDoorI
import Derived.Test.YteppfammimbmcaaDoorO
namespace Go.Proofs.YteppfammimbmcaaDoor.Kit
open Go.RowKit Go.Shelf Go.Deep
set_option linter.unusedVariables false

attribute [local go_sem] Oper.semAt_some

theorem Held.below {w W : World} {b1 b2 b3 : Nat} {ao : Option Addr} {ca : Nat} {kl : List Nat} {first e : Nat} (h : Held w b1 b2 b3 ao ca kl first e) (k : Below w.heap.size w W) : Held W b1 b2 b3 ao ca kl first e := by
  have hk : ∀ (p : Addr) (v : Value), w.cell? p = some v → W.cell? p = some v := fun p v h => (k.cell (p := p) (block_lt_of_cell h)).trans h
  refine ⟨fun j hj => hk _ _ (h.tab j hj), hk _ _ h.c1, hk _ _ h.c2, hk _ _ h.c3, fun hn => ?_⟩
  obtain ⟨b, off, rfl, hc⟩ := h.bytes hn
  exact ⟨b, off, rfl, fun j hj => hk _ _ (hc j hj)⟩

theorem runs_stops (n : Nat) (hn : 1 ≤ n) (b1 b2 b3 : Nat) (ao : Option Addr) (ca : Nat) (kl : List Nat) (hl : Bytes kl) (hlen : kl.length ≤ 10000000) (first m : Nat) (he : first + m ≤ 8 * kl.length) (w : World) (hH : Held w b1 b2 b3 ao ca kl first (first + m)) :
    SeqStopsK Fence.wide n Tryd.prog 47 #[.pointer (some ⟨b1, 0, none⟩), .pointer (some ⟨b2, 0, none⟩), .pointer (some ⟨b3, 0, none⟩)] encR (KpOf (HeldS b1 b2 b3 ao))
      (fun xs => xs = rf (fun k => bitAt kl (first + k)) m) (fun pre => pre <+: rf (fun k => bitAt kl (first + k)) m) (rf (fun k => bitAt kl (first + k)) m).length w :=
  fun l J Jx W hW hJ hJx hY h0 =>
    runs1_in n hn l b1 b2 b3 ao ca kl hl hlen first m he J Jx (fun pre W q h => hJ pre W _ none h (grown_drewN W q) (fun r e => by cases e)) (fun pre W q h => hJx pre W _ none h (grown_drewN W q) (fun r e => by cases e)) hY W (hH.below hW) h0

theorem empty1_in (n : Nat) (hn : 1 ≤ n) (l : Nat) (W : World) :
    CallsIn Fence.wide n Tryd.prog 45 #[.func (.yield l) #[] #[]] W fun e W' => (∃ v, e = .returned v) ∧ W' = W := by
  refine callsIn_of_wp Tryd.func45 rfl trivial ?_ rfl
  simp only [Tryd.ntmps45, List.size_toArray, List.length_cons, List.length_nil, Nat.reduceAdd, Nat.reduceSub, Array.replicate_succ, Array.replicate_zero, List.push_toArray, List.append_toArray, List.nil_append, List.cons_append]
  gi_wp2
  go_end0
  exact ⟨⟨_, rfl⟩, rfl⟩
theorem empty_stops (n : Nat) (hn : 1 ≤ n) (Kp : World → World → Prop) (w : World) :
    SeqStopsK Fence.wide n Tryd.prog 45 #[] encR Kp (fun xs => xs = []) (fun _ => False) 0 w :=
  fun l J Jx W hW hJ hJx hY h0 => (empty1_in n hn l W).mono fun e W' ⟨hv, hw⟩ => ⟨hv, .inl ⟨[], rfl, by rw [hw]; exact h0⟩⟩

/-! ### slices.Clone, Runs -/
theorem src_bytes (w : World) (ao : Option Addr) (c : Nat) (l : List Nat) (hb : BytesAt w ao l) (t : Nat) (cs : Array Value) :
    Src Tryd.prog 1 24 (.slice ao l.length c) l.length (l.map fun x : Nat => .int .u8 x) (w.alloc (.cells cs t)) := by
  cases ao with
  | none =>
    have h0 : l = [] := by
      by_cases h : 0 < l.length
      · obtain ⟨b, off, e, _⟩ := hb h; cases e
      · exact List.eq_nil_of_length_eq_zero (by omega)
    subst h0
    exact Src.ofNil _ Tryd.underlying24 c
  | some ad =>
    refine Src.ofSlice _ Tryd.underlying24 _ _ _ _ (by simp) ?_ (by intro u hu; obtain ⟨x, _, rfl⟩ := List.mem_map.1 hu; rfl)
    intro j v hj
    have hjl : j < l.length := by have := (List.getElem?_eq_some_iff.1 hj).1; simpa using this
    obtain ⟨b', off', e, hc⟩ := hb (by omega)
    simp only [Option.some.injEq] at e
    subst e
    have h1 := (Keeps.none_alloc w (.cells cs t)).cell' (hc j hjl) id
    simp only [List.getElem?_map, List.getElem?_eq_getElem hjl, Option.map_some, Option.some.injEq] at hj
    subst hj
    rw [Addr.add_lit, h1]
    simp [List.getElem?_eq_getElem hjl]

theorem clone_any (ao : Option Addr) (c : Nat) (l : List Nat) (hlen : l.length ≤ 10000000) (w : World) (hb : BytesAt w ao l) :
    Calls Tryd.prog 46 #[.slice ao l.length c] w fun e w' => ∃ v, e = .returned v ∧ New w w' 5 v (l.map fun x : Nat => .int .u8 x) := by
  have HS : Hid (∀ t cs, Src Tryd.prog 1 24 (.slice ao l.length c) l.length (l.map fun x : Nat => .int .u8 x) (w.alloc (.cells cs t))) := fun t cs => src_bytes w ao c l hb t cs
  cases ao with
  | none =>
    have h0 : l = [] := by
      by_cases h : 0 < l.length
      · obtain ⟨b, off, e, _⟩ := hb h; cases e
      · exact List.eq_nil_of_length_eq_zero (by omega)
    subst h0
    clear hb HS
    have hq : ∀ w, (binOp .eql 24 (.slice none 0 c) (.slice none 0 0)).run Tryd.prog w = .ok (.bool true) w := fun w => by kernel_rfl
    go_enter Tryd.func46, Tryd.ntmps46
    go_wp2
    go_ret
    exact ⟨_, rfl, New.nil w 5⟩
  | some ad =>
    clear hb
    have hq : ∀ w, (binOp .eql 24 (.slice (some ad) l.length c) (.slice none 0 0)).run Tryd.prog w = .ok (.bool false) w := fun w => by kernel_rfl
    go_enter Tryd.func46, Tryd.ntmps46
    go_wp2_with (first | (at_builtin; refine wpList_append_any _ rfl (.tmp 5) (.tmp 6) 24 24 rfl 5 (.int .u8 0) 1 Tryd.underlying24 info5 rfl _ _ _ rfl ((New.empty w 5).own rfl) _ _ _ rfl (HS.out _ _) ?h63 ?hby ?_))
    case h63 => simp; omega
    case hby => simp; omega
    intro v' w1 hown' hgrow hblk
    obtain ⟨ao', cap', rfl⟩ := own_form hown'
    have HN : Hid (New w w1 5 (.slice ao' l.length cap') (l.map fun x : Nat => .int .u8 x)) := (New.empty w 5).step (n' := l.length) (Keeps.refl _ _) hown' (by simp) hgrow (by simpa using hblk)
    clear hown' hgrow hblk
    go_wp2
    go_ret
    exact ⟨_, rfl, HN.out⟩

theorem rf_congr {f g : Nat → Bool} : ∀ {n : Nat}, (∀ i, i < n → f i = g i) → rf f n = rf g n := by
  intro n
  induction n with
  | zero => intro _; rfl
  | succ n ih =>
    intro h
    have e1 := h n (by omega)
    have e2 : 0 < n → f (n - 1) = g (n - 1) := fun h0 => h _ (by omega)
    simp only [rf, ih fun i hi => h i (by omega), e1]
    by_cases h0 : 0 < n
    · rw [e2 h0]
    · simp [h0]
theorem cn_congr {f g : Nat → Bool} : ∀ {n : Nat}, (∀ i, i < n → f i = g i) → cn f n = cn g n := by
  intro n
  induction n with
  | zero => intro _; rfl
  | succ n ih => intro h; simp only [cn, ih fun i hi => h i (by omega), h n (by omega)]

/-- the value that Runs hands back -/
def Iter (w w' : World) (v : Value) (f : Nat → Bool) (m : Nat) : Prop :=
  ∃ b1 b2 b3 ao ca kl first, v = .func (.func 47) #[] #[.pointer (some ⟨b1, 0, none⟩), .pointer (some ⟨b2, 0, none⟩), .pointer (some ⟨b3, 0, none⟩)] ∧
    Bytes kl ∧ kl.length ≤ 10000000 ∧ first + m ≤ 8 * kl.length ∧ Held w' b1 b2 b3 ao ca kl first (first + m) ∧ (∀ k, k < m → bitAt kl (first + k) = f k) ∧ Keeps w w' (fun _ => False) ∧
    (∀ b, HeldS b1 b2 b3 ao b → b = 0 ∨ (w.heap.size ≤ b ∧ b < w'.heap.size))

theorem sub_bit (l : List Nat) (fr m k : Nat) (hk : k < m) (h : fr + m ≤ 8 * l.length) : bitAt ((l.drop (fr / 8)).take (need (fr + m) - fr / 8)) (fr % 8 + k) = bitAt l (fr + k) := by
  unfold bitAt
  have h1 : (fr % 8 + k) / 8 < need (fr + m) - fr / 8 := by unfold need; omega
  rw [show (fr % 8 + k) % 8 = (fr + k) % 8 by omega]
  congr 1
  simp only [List.getD_eq_getElem?_getD, List.getElem?_take, h1, if_true, List.getElem?_drop]
  rw [show fr / 8 + (fr % 8 + k) / 8 = (fr + k) / 8 by omega]
theorem sub_bytes {l : List Nat} (hl : Bytes l) (a n : Nat) : Bytes ((l.drop a).take n) := fun x hx => hl x (List.mem_of_mem_drop (List.mem_of_mem_take hx))
theorem sub_at {w : World} {b off : Nat} {l : List Nat} (hb : BytesAt w (some ⟨b, off, none⟩) l) (a n : Nat) (h : a + n ≤ l.length) : BytesAt w (some ⟨b, off + a, none⟩) ((l.drop a).take n) := by
  intro hn
  have hlen : ((l.drop a).take n).length = n := by rw [List.length_take, List.length_drop]; omega
  rw [hlen] at hn
  obtain ⟨b', off', e, hc⟩ := hb (by omega)
  simp only [Option.some.injEq, Addr.mk.injEq, and_true] at e
  obtain ⟨rfl, rfl⟩ := e
  refine ⟨b, off + a, rfl, fun k hk => ?_⟩
  rw [hlen] at hk
  rw [Nat.add_assoc, hc (a + k) (by omega)]
  simp [List.getD, hk]
theorem New.bytes {w w' : World} {v : Value} {l : List Nat} (h : New w w' 5 v (l.map fun x : Nat => .int .u8 x)) : ∃ ao cap, v = .slice ao l.length cap ∧ BytesAt w' ao l ∧ (∀ b, ao.map (·.block) = some b → w.heap.size ≤ b ∧ b < w'.heap.size) ∧ (ao = none ∨ ∃ b off, ao = some ⟨b, off, none⟩) ∧ l.length ≤ cap ∧ cap ≤ maxLen := by
  have h1 := h.own (show (l.map fun x : Nat => Value.int .u8 x).length = l.length by simp)
  rcases h1.2 with ⟨rfl, h0⟩ | ⟨g, cap, cur, rfl, _, hgg, hc1, hc2, _⟩
  · exact ⟨none, 0, by rw [h0], fun hn => by omega, fun b hb => by simp at hb, .inl rfl, by omega, by simp [maxLen]⟩
  · refine ⟨_, cap, rfl, fun hn => ⟨g, 0, rfl, fun k hk => ?_⟩, fun b hb => ?_, .inr ⟨g, 0, rfl⟩, hc1, hc2⟩
    · rw [Nat.zero_add, h1.cellAt k (by omega)]
      simp [hk]
    · simp at hb; subst hb
      exact ⟨h.2.1 g rfl, (Array.getElem?_eq_some_iff.1 hgg).1⟩

theorem cellNew (W : World) (v : Value) (t : TypeId) : (W.alloc (.cells #[v] t)).cell? ⟨W.heap.size, 0, none⟩ = some v ∧ (W.alloc (.cells #[v] t)).frozen? ⟨W.heap.size, 0, none⟩ = false := by
  have h := heap_alloc_new W (.cells #[v] t)
  exact ⟨by rw [cell_of_row _ _ 0 _ _ _ h]; rfl, frozen_of_row _ _ 0 _ _ h⟩
theorem cellAlloc {W : World} {a : Addr} {v : Value} (o : Obj) (h : W.cell? a = some v) : (W.alloc o).cell? a = some v := (Keeps.none_alloc W o).cell' h id
theorem Iter.mk' {w w1 : World} {ao : Option Addr} {cap : Nat} {kl : List Nat} {first m : Nat} {f : Nat → Bool} (hT : Tab w) (hN : New w w1 5 (.slice ao kl.length cap) (kl.map fun x : Nat => .int .u8 x)) (hkl : Bytes kl) (hlen : kl.length ≤ 10000000) (he : first + m ≤ 8 * kl.length) (hf : ∀ k, k < m → bitAt kl (first + k) = f k) :
    Iter w (((w1.alloc (.cells #[.slice ao kl.length cap] 24)).alloc (.cells #[.int .i64 (first : Int)] 3)).alloc (.cells #[.int .i64 (((first + m : Nat)) : Int)] 3))
      (.func (.func 47) #[] #[.pointer (some ⟨w1.heap.size, 0, none⟩), .pointer (some ⟨w1.heap.size + 1, 0, none⟩), .pointer (some ⟨w1.heap.size + 1 + 1, 0, none⟩)]) f m := by
  obtain ⟨ao', cap', he', hB, hin, _⟩ := hN.bytes
  simp only [Value.slice.injEq, true_and] at he'
  obtain ⟨rfl, rfl⟩ := he'
  have hk : Keeps w1 (((w1.alloc (.cells #[.slice ao kl.length cap] 24)).alloc (.cells #[.int .i64 (first : Int)] 3)).alloc (.cells #[.int .i64 (((first + m : Nat)) : Int)] 3)) (fun _ => False) := (((Keeps.refl _ _).alloc _).alloc _).alloc _
  have hsz := hN.2.2.size
  refine ⟨_, _, _, ao, cap, kl, first, rfl, hkl, hlen, he, ⟨(hT.kept hN.2.2 id).kept hk id, ?_, ?_, ?_, hB.kept0 hk⟩, hf, hN.2.2.trans hk fun _ _ h => h, fun b hb => ?_⟩
  · have := cellNew w1 (.slice ao kl.length cap) 24
    exact cellAlloc _ (cellAlloc _ this.1)
  · have := cellNew (w1.alloc (.cells #[.slice ao kl.length cap] 24)) (.int .i64 (first : Int)) 3
    rw [World.size_alloc] at this
    exact cellAlloc _ this.1
  · have := cellNew ((w1.alloc (.cells #[.slice ao kl.length cap] 24)).alloc (.cells #[.int .i64 (first : Int)] 3)) (.int .i64 (((first + m : Nat)) : Int)) 3
    rw [World.size_alloc, World.size_alloc] at this
    exact this.1
  · rcases hb with rfl | rfl | rfl | rfl | hb
    · exact .inl rfl
    · right; simp; omega
    · right; simp; omega
    · right; simp; omega
    · right; have := hin b hb; simp; omega

set_option maxHeartbeats 1000000 in
theorem runs_ok (ao : Option Addr) (ca : Nat) (l : List Nat) (hl : Bytes l) (hn : l.length ≤ 10000000) (hca : l.length ≤ ca) (hcb : ca ≤ 9223372036854775807) (fr m : Nat) (h : fr + m ≤ 8 * l.length) (w : World) (hT : Tab w) (hb : BytesAt w ao l) :
    Calls Tryd.prog 17 #[.slice ao l.length ca, .int .i64 fr, .int .i64 m] w fun e w' => ∃ v, e = .returned v ∧ Iter w w' v (fun k => bitAt l (fr + k)) m := by
  have hmf : ∀ (fn : Fn) (first cap : Array Value) (w : World), (Instr.makeFunc fn first cap).run Tryd.prog w = .ok (.func fn first cap) w := fun _ _ _ _ => rfl
  have hT' : Hid (Tab w) := hT
  by_cases hl0 : l = []
  · subst hl0
    obtain rfl : fr = 0 := by simp at h; omega
    obtain rfl : m = 0 := by simp at h; omega
    clear hb hT
    go_enter Tryd.func17, Tryd.ntmps17
    go_wp2_with (first | (go_at_call 44; refine (refused_ok _ 0 ca (by omega) 0 0 (by omega) _).mono ?_; rintro e w' ⟨rfl, rfl⟩) | (go_at_call 22; refine (need_pos 0 (by omega) _).mono ?_; rintro e w' ⟨rfl, rfl⟩))
    have hcl := fun ao c => clone_any ao c [] (by simp) w (fun h => by simp at h)
    refine (hcl _ _).mono ?_
    rintro e w1 ⟨v, rfl, hN⟩
    obtain ⟨ao1, cap1, rfl, _⟩ := hN.bytes
    have HI : Hid (Iter w _ _ (fun k => bitAt [] (0 + k)) 0) := Iter.mk' (first := 0) hT'.out hN (fun x hx => by simp at hx) (by simp) (by simp) (fun k hk => by omega)
    clear hcl hN
    go_wp2
    go_ret
    exact ⟨_, rfl, HI.out⟩
  · obtain ⟨b, off, rfl, _⟩ := hb (List.length_pos_iff.2 hl0)
    have hn1 : need (fr + m) ≤ ca := by unfold need; omega
    have hn2 : (fr : Int) / 8 ≤ (need (fr + m) : Int) := by unfold need; omega
    have hn3 : fr / 8 + (need (fr + m) - fr / 8) ≤ l.length := by unfold need; omega
    have hkl : ((l.drop (fr / 8)).take (need (fr + m) - fr / 8)).length = need (fr + m) - fr / 8 := by rw [List.length_take, List.length_drop]; omega
    have hB := sub_at hb (fr / 8) (need (fr + m) - fr / 8) hn3
    have HL : Hid (Bytes ((l.drop (fr / 8)).take (need (fr + m) - fr / 8)) ∧ ∀ k, k < m → bitAt ((l.drop (fr / 8)).take (need (fr + m) - fr / 8)) (fr % 8 + k) = bitAt l (fr + k)) := ⟨sub_bytes hl _ _, fun k hk => sub_bit l fr m k hk h⟩
    have hen : fr % 8 + m ≤ 8 * (need (fr + m) - fr / 8) := by unfold need; omega
    obtain ⟨kl, hkl'⟩ : ∃ kl, kl = (l.drop (fr / 8)).take (need (fr + m) - fr / 8) := ⟨_, rfl⟩
    rw [← hkl'] at hB HL hkl
    have hfr8 : fr / 8 ≤ need (fr + m) := by unfold need; omega
    clear hkl' hb hT
    by_cases hz : ca = fr / 8
    · have hcl := clone_any (some ⟨b, off, none⟩) 0 kl (by omega) w (fun h => by omega)
      have hkl0 : kl.length = 0 := by omega
      rw [hkl0] at hcl
      subst hz
      go_enter Tryd.func17, Tryd.ntmps17
      go_wp2_with (first | (go_at_call 44; refine (refused_ok _ l.length _ (by omega) fr m h _).mono ?_; rintro e w' ⟨rfl, rfl⟩) | (go_at_call 22; refine (need_pos (fr + m) (by omega) _).mono ?_; rintro e w' ⟨rfl, rfl⟩))
      refine hcl.mono ?_
      rintro e w1 ⟨v, rfl, hN⟩
      obtain ⟨ao1, cap1, rfl, _⟩ := hN.bytes
      have HI : Hid (Iter w _ _ (fun k => bitAt l (fr + k)) m) := Iter.mk' hT'.out hN HL.out.1 (by omega) (by omega) HL.out.2
      rw [hkl0] at HI ⊢
      clear hcl hN
      go_wp2
      go_ret
      exact ⟨_, rfl, HI.out⟩
    · have hcl := clone_any (some ⟨b, off + fr / 8, none⟩) (ca - fr / 8) kl (by omega) w hB
      rw [hkl] at hcl
      go_enter Tryd.func17, Tryd.ntmps17
      go_wp2_with (first | (go_at_call 44; refine (refused_ok _ l.length ca (by omega) fr m h _).mono ?_; rintro e w' ⟨rfl, rfl⟩) | (go_at_call 22; refine (need_pos (fr + m) (by omega) _).mono ?_; rintro e w' ⟨rfl, rfl⟩))
      refine hcl.mono ?_
      rintro e w1 ⟨v, rfl, hN⟩
      obtain ⟨ao1, cap1, rfl, _⟩ := hN.bytes
      have HI : Hid (Iter w _ _ (fun k => bitAt l (fr + k)) m) := Iter.mk' hT'.out hN HL.out.1 (by omega) (by omega) HL.out.2
      rw [hkl] at HI ⊢
      clear hcl hN
      go_wp2
      go_ret
      exact ⟨_, rfl, HI.out⟩
end Go.Proofs.YteppfammimbmcaaDoor.Kit
