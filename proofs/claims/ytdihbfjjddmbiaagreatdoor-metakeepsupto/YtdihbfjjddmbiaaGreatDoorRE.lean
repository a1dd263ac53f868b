import Derived.Test.YtdihbfjjddmbiaaGreatDoorKitTwo
set_option maxRecDepth 100000
set_option maxHeartbeats 4000000
namespace Go.Proofs.YtdihbfjjddmbiaaGreatDoor.Kit
open Go.RowKit Go.Shelf Go.Deep
set_option linter.unusedVariables false
attribute [local go_sem] run_store_func
theorem own_formK {W : World} {t s n : Nat} {v : Value} {xs : List Value} (h : W.ownsRow 0 t s v n xs) : ∃ vo vc, v = .slice vo n vc := by
  rcases h.2 with ⟨rfl, h0⟩ | ⟨g, cap, cur, rfl, _⟩
  · exact ⟨none, 0, by rw [h0]⟩
  exact ⟨_, _, rfl⟩
structure LAt {α : Type} (W w' : World) (t s : Nat) (c : α → List Value) (l : List α) (vo : Option Addr) (vc : Nat) : Prop where
  own : w'.ownsRow 0 t s (.slice vo l.length vc) l.length (l.flatMap c)
  new : ∀ g, (Value.slice vo l.length vc).ownBlock = some g → W.heap.size ≤ g
theorem LAt.nil {α : Type} (W w' : World) (t s : Nat) (c : α → List Value) : LAt W w' t s c [] none 0 := ⟨World.ownsRow_nil _ _ _ _, fun g e => by simp [Value.ownBlock] at e⟩
theorem LAt.kp {α : Type} {W U U' : World} {t s : Nat} {c : α → List Value} {l : List α} {vo : Option Addr} {vc p : Nat} (h : LAt W U t s c l vo vc) (k : Keeps U U' (fun z => z = p)) (hp : p < W.heap.size) : LAt W U' t s c l vo vc :=
  ⟨row_kp h.own fun g e => k.block g (own_lt h.own g e) (by have := h.new g e; omega), h.new⟩
theorem sevK_err {α : Type} {r : Rd α} {n k : Nat} {acc : List α} {s : St} {er : Int × Nat} (h : k < n) (hr : r s = .error er) : sevK r (n - k) acc s = .error er := by
  obtain ⟨m, hm⟩ : ∃ m, n - k = m + 1 := ⟨n - k - 1, by omega⟩
  rw [hm, sevK]; exact Rd.bind_err hr
theorem sevK_ok {α : Type} {r : Rd α} {n k : Nat} {acc : List α} {s s' : St} {x : α} (h : k < n) (hr : r s = .ok (x, s')) : sevK r (n - k) acc s = sevK r (n - (k + 1)) (acc ++ [x]) s' := by
  obtain ⟨m, hm⟩ : ∃ m, n - k = m + 1 := ⟨n - k - 1, by omega⟩
  rw [hm, sevK, show n - (k + 1) = m by omega]; exact Rd.bind_ok hr
theorem sevK_end {α : Type} {r : Rd α} {n : Nat} {acc : List α} {s : St} : sevK r (n - n) acc s = .ok (acc, s) := by rw [Nat.sub_self]; rfl
theorem info62 : (Tryz.prog.info? 44).map (fun i => (i.zero, i.size, i.bytes)) = some (some (.agg #[.int .i64 0, .int .i64 0]), 2, 16) := by kernel_rfl
theorem src62 (w : World) (y0 y1 : Int) : Src Tryz.prog 2 26 (.slice (some ⟨w.heap.size, 0, none⟩) 1 1) 1 [.int .i64 y0, .int .i64 y1] (w.alloc (.cells #[.int .i64 y0, .int .i64 y1] 44)) := by
  refine Src.ofSlice (w := w.alloc (.cells #[.int .i64 y0, .int .i64 y1] 44)) Tryz.underlying26 ⟨w.heap.size, 0, none⟩ 1 1 [.int .i64 y0, .int .i64 y1] (by simp) (fun j v hj => ?_) (fun v hv => by simp at hv; rcases hv with rfl | rfl <;> rfl)
  have hb' := heap_alloc_new w (.cells #[.int .i64 y0, .int .i64 y1] 44)
  have e : (⟨w.heap.size, 0, none⟩ : Addr).add j = ⟨w.heap.size, j, none⟩ := by cases j <;> simp [Addr.add]
  rw [e]
  simp only [World.cell?, hb']
  simpa using hj
theorem nodes_any (p : Nat) (bo : Option Addr) (B : List UInt8) (bc n : Nat) (hn : n ≤ 65535) : RdC p bo B bc 79 #[.int .i64 (n : Int), .func (.func 80) #[.pointer (some ⟨p, 0, none⟩)] #[]] (sevR n (nodeR B)) (fun W w' l v => ∃ vo vc, v = .slice vo l.length vc ∧ LAt W w' 44 2 (fun x : Int × Int => [Value.int .i64 x.1, .int .i64 x.2]) l vo vc) := by
  intro W a0 g0 hR
  obtain ⟨R, hRes⟩ : ∃ R, R = sevR n (nodeR B) (a0, g0) := ⟨_, rfl⟩
  rw [← hRes]
  have hp := hR.lt
  have HP := hidM hp
  have HN := hidM (node_any p bo B bc)
  have HR0 := hidM hR
  have HS0 : Hid (sevK (nodeR B) (n - 0) [] (a0, g0) = R) := by rw [hRes]; rfl
  clear hR hRes hp
  go_enter Tryz.func79, Tryz.ntmps79
  go_wp2_with fail
  go_loopw [5, 7] (fun l i wr => ∃ (k : Nat) (acc : List (Int × Int)) (a g : Nat) (vo : Option Addr) (vc : Nat), k ≤ n ∧ i = .int .i64 (k : Int) ∧ l = .slice vo k vc ∧ Hid (acc.length = k) ∧ Hid (LAt W wr 44 2 (fun x : Int × Int => [Value.int .i64 x.1, .int .i64 x.2]) acc vo vc) ∧ Hid (RAt wr p bo B bc a g) ∧ Hid (Keeps W wr (fun z => z = p)) ∧ Hid (sevK (nodeR B) (n - k) acc (a, g) = R)) (fun _ i _ => n - (intOf i).toNat)
  case atStart => exact ⟨0, [], a0, g0, none, 0, Nat.zero_le _, rfl, rfl, rfl, LAt.nil _ _ _ _ _, HR0.out, Keeps.refl _ _, HS0.out⟩
  case round =>
    obtain ⟨k, acc, a, g, vo, vc, hk, rfl, rfl, HL, HA, HR, HG, HS⟩ := hrel
    by_cases hlt : k < n
    · have hltI : (k : Int) < (n : Int) := by omega
      go_wp2_with (go_at_call 80; refine Hid.out ?_)
      unfold Hid
      have hq := HN.out _ _ _ HR.out
      cases hr : nodeR B (a, g) with
      | error er =>
        rw [hr] at hq
        refine Calls.mono hq ?_
        rintro e' U ⟨hk', rfl⟩
        have HGe := hidM (HG.out.tr hk')
        have Hr := hidM hr
        clear hk' hq hr
        go_wp2_with fail
        exact ⟨rfl, RdQ.err HGe.out (HS.out.symm.trans (sevK_err hlt Hr.out))⟩
      | ok q =>
        obtain ⟨x, a1, g1⟩ := q
        rw [hr] at hq
        refine Calls.mono hq ?_
        rintro e' U ⟨hk', v, rfl, rfl, hR⟩
        have HA1 := hidM (HA.out.kp hk' HP.out)
        have HG1 := hidM (HG.out.tr hk')
        have HR1 := hidM hR
        have HS1 : Hid (sevK (nodeR B) (n - (k + 1)) (acc ++ [x]) (a1, g1) = R) := (sevK_ok hlt hr).symm.trans HS.out
        obtain ⟨y0, hy0⟩ : ∃ y, y = x.1 := ⟨_, rfl⟩
        obtain ⟨y1, hy1⟩ : ∃ y, y = x.2 := ⟨_, rfl⟩
        rw [← hy0, ← hy1]
        have HC : Hid ((fun x : Int × Int => [Value.int .i64 x.1, .int .i64 x.2]) x = [.int .i64 y0, .int .i64 y1]) := by show _ = _; rw [hy0, hy1]
        have hsrc : Src Tryz.prog 2 26 (.slice (some ⟨U.heap.size, 0, none⟩) 1 1) 1 [.int .i64 y0, .int .i64 y1] (U.alloc (.cells #[.int .i64 y0, .int .i64 y1] 44)) := src62 U _ _
        have hown : (U.alloc (.cells #[.int .i64 y0, .int .i64 y1] 44)).ownsRow 0 44 2 (.slice vo k vc) k (acc.flatMap (fun x : Int × Int => [Value.int .i64 x.1, .int .i64 x.2])) := by have := HA1.out.own.alloc (.cells #[.int .i64 y0, .int .i64 y1] 44); rwa [HL.out] at this
        have HO := hidM hown
        have HSr := hidM hsrc
        clear hk' hq hr hR hown hsrc HA HR HG HS hy0 hy1
        go_wp2_with (with_reducible show wpList Tryz.prog _ _ (Oper.mk (some 13) _ _ _ _ _ :: _) _ _; refine Hid.out ?_)
        unfold Hid
        refine wpList_append_anyN (P := Tryz.prog) _ rfl (.tmp 9) (.tmp 12) 26 26 rfl 44 (.agg #[.int .i64 0, .int .i64 0]) 2 16 Tryz.underlying26 info62 rfl _ _ _ rfl HO.out _ _ _ rfl HSr.out (by omega) (by omega) ?_
        refine Hid.out ?_
        unfold Hid
        intro v' w1 hown hgrow hblk
        obtain ⟨vo', vc', rfl⟩ := own_formK hown
        have gA : Gr U (U.alloc (.cells #[.int .i64 y0, .int .i64 y1] 44)) := gr_alloc U _
        have kA : Keeps U w1 (fun z => (Value.slice vo k vc).ownBlock = some z) := (gA.mono fun _ _ h => h.elim).tr (Keeps.ofGrown hgrow)
        have hnew : ∀ g, (Value.slice vo k vc).ownBlock = some g → W.heap.size ≤ g := fun g e => HA1.out.new g (by rw [HL.out]; exact e)
        have kW : Keeps W w1 (fun z => z = p) := HG1.out.trans kA (fun j hj h => by have := hnew j h; omega)
        have HR2 := hidM (RAt.over HR0.out HR1.out kW (kA.block p (lt_of_heap HR1.out.box) (fun h => by have := hnew p h; have := HP.out; omega)))
        have HG2 := hidM kW
        have HL2 : Hid ((acc ++ [x]).length = k + 1) := by show _ = _; rw [List.length_append, HL.out]; rfl
        have HA2 : Hid (LAt W w1 44 2 (fun x : Int × Int => [Value.int .i64 x.1, .int .i64 x.2]) (acc ++ [x]) vo' vc') := ⟨by rw [HL2.out, List.flatMap_append]; simpa [HC.out] using hown, fun g e => by rw [HL2.out] at e; exact hblk.elim (fun q => hnew g (q ▸ e)) (fun q => by have := q g e; have := HG1.out.size; have := gA.size; omega)⟩
        clear hown hgrow hblk gA kA hnew kW HO HSr HA1 HC
        go_wp2_with fail
        go_roundw
        case rel => exact ⟨k + 1, acc ++ [x], a1, g1, vo', vc', by omega, by simp, rfl, HL2.out, HA2.out, HR2.out, HG2.out, HS1.out⟩
        case measure => simp [intOf]; omega
    have hkn : k = n := by omega
    subst hkn
    have hltI : ¬ (k : Int) < (k : Int) := by omega
    go_wp2_with fail
    go_ret
    have hE : R = .ok (acc, (a, g)) := HS.out.symm.trans sevK_end
    have hv : Value.slice vo k vc = .slice vo acc.length vc := by rw [HL.out]
    exact RdQ.ok HG.out hE ⟨vo, vc, hv, HA.out⟩ HR.out
theorem info64 : (Tryz.prog.info? 46).map (fun i => (i.zero, i.size, i.bytes)) = some (some (.agg #[.int .i64 0, .int .i64 0, .int .i64 0]), 3, 24) := by kernel_rfl
theorem src64 (w : World) (y0 y1 y2 : Int) : Src Tryz.prog 3 27 (.slice (some ⟨w.heap.size, 0, none⟩) 1 1) 1 [.int .i64 y0, .int .i64 y1, .int .i64 y2] (w.alloc (.cells #[.int .i64 y0, .int .i64 y1, .int .i64 y2] 46)) := by
  refine Src.ofSlice (w := w.alloc (.cells #[.int .i64 y0, .int .i64 y1, .int .i64 y2] 46)) Tryz.underlying27 ⟨w.heap.size, 0, none⟩ 1 1 [.int .i64 y0, .int .i64 y1, .int .i64 y2] (by simp) (fun j v hj => ?_) (fun v hv => by simp at hv; rcases hv with rfl | rfl | rfl <;> rfl)
  have hb' := heap_alloc_new w (.cells #[.int .i64 y0, .int .i64 y1, .int .i64 y2] 46)
  have e : (⟨w.heap.size, 0, none⟩ : Addr).add j = ⟨w.heap.size, j, none⟩ := by cases j <;> simp [Addr.add]
  rw [e]
  simp only [World.cell?, hb']
  simpa using hj
theorem slots_any (p : Nat) (bo : Option Addr) (B : List UInt8) (bc n : Nat) (hn : n ≤ 65535) : RdC p bo B bc 81 #[.int .i64 (n : Int), .func (.func 82) #[.pointer (some ⟨p, 0, none⟩)] #[]] (sevR n (slotR B)) (fun W w' l v => ∃ vo vc, v = .slice vo l.length vc ∧ LAt W w' 46 3 (fun x : Int × Int × Int => [Value.int .i64 x.1, .int .i64 x.2.1, .int .i64 x.2.2]) l vo vc) := by
  intro W a0 g0 hR
  obtain ⟨R, hRes⟩ : ∃ R, R = sevR n (slotR B) (a0, g0) := ⟨_, rfl⟩
  rw [← hRes]
  have hp := hR.lt
  have HP := hidM hp
  have HN := hidM (slot_any p bo B bc)
  have HR0 := hidM hR
  have HS0 : Hid (sevK (slotR B) (n - 0) [] (a0, g0) = R) := by rw [hRes]; rfl
  clear hR hRes hp
  go_enter Tryz.func81, Tryz.ntmps81
  go_wp2_with fail
  go_loopw [5, 7] (fun l i wr => ∃ (k : Nat) (acc : List (Int × Int × Int)) (a g : Nat) (vo : Option Addr) (vc : Nat), k ≤ n ∧ i = .int .i64 (k : Int) ∧ l = .slice vo k vc ∧ Hid (acc.length = k) ∧ Hid (LAt W wr 46 3 (fun x : Int × Int × Int => [Value.int .i64 x.1, .int .i64 x.2.1, .int .i64 x.2.2]) acc vo vc) ∧ Hid (RAt wr p bo B bc a g) ∧ Hid (Keeps W wr (fun z => z = p)) ∧ Hid (sevK (slotR B) (n - k) acc (a, g) = R)) (fun _ i _ => n - (intOf i).toNat)
  case atStart => exact ⟨0, [], a0, g0, none, 0, Nat.zero_le _, rfl, rfl, rfl, LAt.nil _ _ _ _ _, HR0.out, Keeps.refl _ _, HS0.out⟩
  case round =>
    obtain ⟨k, acc, a, g, vo, vc, hk, rfl, rfl, HL, HA, HR, HG, HS⟩ := hrel
    by_cases hlt : k < n
    · have hltI : (k : Int) < (n : Int) := by omega
      go_wp2_with (go_at_call 82; refine Hid.out ?_)
      unfold Hid
      have hq := HN.out _ _ _ HR.out
      cases hr : slotR B (a, g) with
      | error er =>
        rw [hr] at hq
        refine Calls.mono hq ?_
        rintro e' U ⟨hk', rfl⟩
        have HGe := hidM (HG.out.tr hk')
        have Hr := hidM hr
        clear hk' hq hr
        go_wp2_with fail
        exact ⟨rfl, RdQ.err HGe.out (HS.out.symm.trans (sevK_err hlt Hr.out))⟩
      | ok q =>
        obtain ⟨x, a1, g1⟩ := q
        rw [hr] at hq
        refine Calls.mono hq ?_
        rintro e' U ⟨hk', v, rfl, rfl, hR⟩
        have HA1 := hidM (HA.out.kp hk' HP.out)
        have HG1 := hidM (HG.out.tr hk')
        have HR1 := hidM hR
        have HS1 : Hid (sevK (slotR B) (n - (k + 1)) (acc ++ [x]) (a1, g1) = R) := (sevK_ok hlt hr).symm.trans HS.out
        obtain ⟨y0, hy0⟩ : ∃ y, y = x.1 := ⟨_, rfl⟩
        obtain ⟨y1, hy1⟩ : ∃ y, y = x.2.1 := ⟨_, rfl⟩
        obtain ⟨y2, hy2⟩ : ∃ y, y = x.2.2 := ⟨_, rfl⟩
        rw [← hy0, ← hy1, ← hy2]
        have HC : Hid ((fun x : Int × Int × Int => [Value.int .i64 x.1, .int .i64 x.2.1, .int .i64 x.2.2]) x = [.int .i64 y0, .int .i64 y1, .int .i64 y2]) := by show _ = _; rw [hy0, hy1, hy2]
        have hsrc : Src Tryz.prog 3 27 (.slice (some ⟨U.heap.size, 0, none⟩) 1 1) 1 [.int .i64 y0, .int .i64 y1, .int .i64 y2] (U.alloc (.cells #[.int .i64 y0, .int .i64 y1, .int .i64 y2] 46)) := src64 U _ _ _
        have hown : (U.alloc (.cells #[.int .i64 y0, .int .i64 y1, .int .i64 y2] 46)).ownsRow 0 46 3 (.slice vo k vc) k (acc.flatMap (fun x : Int × Int × Int => [Value.int .i64 x.1, .int .i64 x.2.1, .int .i64 x.2.2])) := by have := HA1.out.own.alloc (.cells #[.int .i64 y0, .int .i64 y1, .int .i64 y2] 46); rwa [HL.out] at this
        have HO := hidM hown
        have HSr := hidM hsrc
        clear hk' hq hr hR hown hsrc HA HR HG HS hy0 hy1 hy2
        go_wp2_with (with_reducible show wpList Tryz.prog _ _ (Oper.mk (some 13) _ _ _ _ _ :: _) _ _; refine Hid.out ?_)
        unfold Hid
        refine wpList_append_anyN (P := Tryz.prog) _ rfl (.tmp 9) (.tmp 12) 27 27 rfl 46 (.agg #[.int .i64 0, .int .i64 0, .int .i64 0]) 3 24 Tryz.underlying27 info64 rfl _ _ _ rfl HO.out _ _ _ rfl HSr.out (by omega) (by omega) ?_
        refine Hid.out ?_
        unfold Hid
        intro v' w1 hown hgrow hblk
        obtain ⟨vo', vc', rfl⟩ := own_formK hown
        have gA : Gr U (U.alloc (.cells #[.int .i64 y0, .int .i64 y1, .int .i64 y2] 46)) := gr_alloc U _
        have kA : Keeps U w1 (fun z => (Value.slice vo k vc).ownBlock = some z) := (gA.mono fun _ _ h => h.elim).tr (Keeps.ofGrown hgrow)
        have hnew : ∀ g, (Value.slice vo k vc).ownBlock = some g → W.heap.size ≤ g := fun g e => HA1.out.new g (by rw [HL.out]; exact e)
        have kW : Keeps W w1 (fun z => z = p) := HG1.out.trans kA (fun j hj h => by have := hnew j h; omega)
        have HR2 := hidM (RAt.over HR0.out HR1.out kW (kA.block p (lt_of_heap HR1.out.box) (fun h => by have := hnew p h; have := HP.out; omega)))
        have HG2 := hidM kW
        have HL2 : Hid ((acc ++ [x]).length = k + 1) := by show _ = _; rw [List.length_append, HL.out]; rfl
        have HA2 : Hid (LAt W w1 46 3 (fun x : Int × Int × Int => [Value.int .i64 x.1, .int .i64 x.2.1, .int .i64 x.2.2]) (acc ++ [x]) vo' vc') := ⟨by rw [HL2.out, List.flatMap_append]; simpa [HC.out] using hown, fun g e => by rw [HL2.out] at e; exact hblk.elim (fun q => hnew g (q ▸ e)) (fun q => by have := q g e; have := HG1.out.size; have := gA.size; omega)⟩
        clear hown hgrow hblk gA kA hnew kW HO HSr HA1 HC
        go_wp2_with fail
        go_roundw
        case rel => exact ⟨k + 1, acc ++ [x], a1, g1, vo', vc', by omega, by simp, rfl, HL2.out, HA2.out, HR2.out, HG2.out, HS1.out⟩
        case measure => simp [intOf]; omega
    have hkn : k = n := by omega
    subst hkn
    have hltI : ¬ (k : Int) < (k : Int) := by omega
    go_wp2_with fail
    go_ret
    have hE : R = .ok (acc, (a, g)) := HS.out.symm.trans sevK_end
    have hv : Value.slice vo k vc = .slice vo acc.length vc := by rw [HL.out]
    exact RdQ.ok HG.out hE ⟨vo, vc, hv, HA.out⟩ HR.out
theorem info60 : (Tryz.prog.info? 55).map (fun i => (i.zero, i.size, i.bytes)) = some (some (.agg #[.string ⟨#[]⟩, .string ⟨#[]⟩]), 2, 32) := by kernel_rfl
theorem src60 (w : World) (y0 y1 : ByteArray) : Src Tryz.prog 2 23 (.slice (some ⟨w.heap.size, 0, none⟩) 1 1) 1 [.string y0, .string y1] (w.alloc (.cells #[.string y0, .string y1] 55)) := by
  refine Src.ofSlice (w := w.alloc (.cells #[.string y0, .string y1] 55)) Tryz.underlying23 ⟨w.heap.size, 0, none⟩ 1 1 [.string y0, .string y1] (by simp) (fun j v hj => ?_) (fun v hv => by simp at hv; rcases hv with rfl | rfl <;> rfl)
  have hb' := heap_alloc_new w (.cells #[.string y0, .string y1] 55)
  have e : (⟨w.heap.size, 0, none⟩ : Addr).add j = ⟨w.heap.size, j, none⟩ := by cases j <;> simp [Addr.add]
  rw [e]
  simp only [World.cell?, hb']
  simpa using hj
theorem notes_any (p : Nat) (bo : Option Addr) (B : List UInt8) (bc n : Nat) (hn : n ≤ 65535) : RdC p bo B bc 91 #[.int .i64 (n : Int), .func (.func 92) #[.pointer (some ⟨p, 0, none⟩)] #[]] (sevR n (noteR B)) (fun W w' l v => ∃ vo vc, v = .slice vo l.length vc ∧ LAt W w' 55 2 (fun x : ByteArray × ByteArray => [Value.string x.1, .string x.2]) l vo vc) := by
  intro W a0 g0 hR
  obtain ⟨R, hRes⟩ : ∃ R, R = sevR n (noteR B) (a0, g0) := ⟨_, rfl⟩
  rw [← hRes]
  have hp := hR.lt
  have HP := hidM hp
  have HN := hidM (note_any p bo B bc)
  have HR0 := hidM hR
  have HS0 : Hid (sevK (noteR B) (n - 0) [] (a0, g0) = R) := by rw [hRes]; rfl
  clear hR hRes hp
  go_enter Tryz.func91, Tryz.ntmps91
  go_wp2_with fail
  go_loopw [5, 7] (fun l i wr => ∃ (k : Nat) (acc : List (ByteArray × ByteArray)) (a g : Nat) (vo : Option Addr) (vc : Nat), k ≤ n ∧ i = .int .i64 (k : Int) ∧ l = .slice vo k vc ∧ Hid (acc.length = k) ∧ Hid (LAt W wr 55 2 (fun x : ByteArray × ByteArray => [Value.string x.1, .string x.2]) acc vo vc) ∧ Hid (RAt wr p bo B bc a g) ∧ Hid (Keeps W wr (fun z => z = p)) ∧ Hid (sevK (noteR B) (n - k) acc (a, g) = R)) (fun _ i _ => n - (intOf i).toNat)
  case atStart => exact ⟨0, [], a0, g0, none, 0, Nat.zero_le _, rfl, rfl, rfl, LAt.nil _ _ _ _ _, HR0.out, Keeps.refl _ _, HS0.out⟩
  case round =>
    obtain ⟨k, acc, a, g, vo, vc, hk, rfl, rfl, HL, HA, HR, HG, HS⟩ := hrel
    by_cases hlt : k < n
    · have hltI : (k : Int) < (n : Int) := by omega
      go_wp2_with (go_at_call 92; refine Hid.out ?_)
      unfold Hid
      have hq := HN.out _ _ _ HR.out
      cases hr : noteR B (a, g) with
      | error er =>
        rw [hr] at hq
        refine Calls.mono hq ?_
        rintro e' U ⟨hk', rfl⟩
        have HGe := hidM (HG.out.tr hk')
        have Hr := hidM hr
        clear hk' hq hr
        go_wp2_with fail
        exact ⟨rfl, RdQ.err HGe.out (HS.out.symm.trans (sevK_err hlt Hr.out))⟩
      | ok q =>
        obtain ⟨x, a1, g1⟩ := q
        rw [hr] at hq
        refine Calls.mono hq ?_
        rintro e' U ⟨hk', v, rfl, rfl, hR⟩
        have HA1 := hidM (HA.out.kp hk' HP.out)
        have HG1 := hidM (HG.out.tr hk')
        have HR1 := hidM hR
        have HS1 : Hid (sevK (noteR B) (n - (k + 1)) (acc ++ [x]) (a1, g1) = R) := (sevK_ok hlt hr).symm.trans HS.out
        obtain ⟨y0, hy0⟩ : ∃ y, y = x.1 := ⟨_, rfl⟩
        obtain ⟨y1, hy1⟩ : ∃ y, y = x.2 := ⟨_, rfl⟩
        rw [← hy0, ← hy1]
        have HC : Hid ((fun x : ByteArray × ByteArray => [Value.string x.1, .string x.2]) x = [.string y0, .string y1]) := by show _ = _; rw [hy0, hy1]
        have hsrc : Src Tryz.prog 2 23 (.slice (some ⟨U.heap.size, 0, none⟩) 1 1) 1 [.string y0, .string y1] (U.alloc (.cells #[.string y0, .string y1] 55)) := src60 U _ _
        have hown : (U.alloc (.cells #[.string y0, .string y1] 55)).ownsRow 0 55 2 (.slice vo k vc) k (acc.flatMap (fun x : ByteArray × ByteArray => [Value.string x.1, .string x.2])) := by have := HA1.out.own.alloc (.cells #[.string y0, .string y1] 55); rwa [HL.out] at this
        have HO := hidM hown
        have HSr := hidM hsrc
        clear hk' hq hr hR hown hsrc HA HR HG HS hy0 hy1
        go_wp2_with (with_reducible show wpList Tryz.prog _ _ (Oper.mk (some 13) _ _ _ _ _ :: _) _ _; refine Hid.out ?_)
        unfold Hid
        refine wpList_append_anyN (P := Tryz.prog) _ rfl (.tmp 9) (.tmp 12) 23 23 rfl 55 (.agg #[.string ⟨#[]⟩, .string ⟨#[]⟩]) 2 32 Tryz.underlying23 info60 rfl _ _ _ rfl HO.out _ _ _ rfl HSr.out (by omega) (by omega) ?_
        refine Hid.out ?_
        unfold Hid
        intro v' w1 hown hgrow hblk
        obtain ⟨vo', vc', rfl⟩ := own_formK hown
        have gA : Gr U (U.alloc (.cells #[.string y0, .string y1] 55)) := gr_alloc U _
        have kA : Keeps U w1 (fun z => (Value.slice vo k vc).ownBlock = some z) := (gA.mono fun _ _ h => h.elim).tr (Keeps.ofGrown hgrow)
        have hnew : ∀ g, (Value.slice vo k vc).ownBlock = some g → W.heap.size ≤ g := fun g e => HA1.out.new g (by rw [HL.out]; exact e)
        have kW : Keeps W w1 (fun z => z = p) := HG1.out.trans kA (fun j hj h => by have := hnew j h; omega)
        have HR2 := hidM (RAt.over HR0.out HR1.out kW (kA.block p (lt_of_heap HR1.out.box) (fun h => by have := hnew p h; have := HP.out; omega)))
        have HG2 := hidM kW
        have HL2 : Hid ((acc ++ [x]).length = k + 1) := by show _ = _; rw [List.length_append, HL.out]; rfl
        have HA2 : Hid (LAt W w1 55 2 (fun x : ByteArray × ByteArray => [Value.string x.1, .string x.2]) (acc ++ [x]) vo' vc') := ⟨by rw [HL2.out, List.flatMap_append]; simpa [HC.out] using hown, fun g e => by rw [HL2.out] at e; exact hblk.elim (fun q => hnew g (q ▸ e)) (fun q => by have := q g e; have := HG1.out.size; have := gA.size; omega)⟩
        clear hown hgrow hblk gA kA hnew kW HO HSr HA1 HC
        go_wp2_with fail
        go_roundw
        case rel => exact ⟨k + 1, acc ++ [x], a1, g1, vo', vc', by omega, by simp, rfl, HL2.out, HA2.out, HR2.out, HG2.out, HS1.out⟩
        case measure => simp [intOf]; omega
    have hkn : k = n := by omega
    subst hkn
    have hltI : ¬ (k : Int) < (k : Int) := by omega
    go_wp2_with fail
    go_ret
    have hE : R = .ok (acc, (a, g)) := HS.out.symm.trans sevK_end
    have hv : Value.slice vo k vc = .slice vo acc.length vc := by rw [HL.out]
    exact RdQ.ok HG.out hE ⟨vo, vc, hv, HA.out⟩ HR.out
abbrev FE := FT × Option Addr × Nat
def fcel (e : FE) : List Value := [.string e.1.name, .bool e.1.nul, .int .i64 e.1.kind, .int .i64 e.1.width, .int .i64 e.1.id, .int .i64 e.1.index, .slice e.2.1 e.1.kids.length e.2.2]
theorem flat7 : ∀ (l : List FE) (i : Nat) (h : i < l.length) (j : Nat), j < 7 → (l.flatMap fcel)[i * 7 + j]? = (fcel l[i])[j]?
  | e :: l, 0, h, j, hj => by
    rw [List.flatMap_cons, List.getElem?_append_left (by show _ < 7; omega)]
    simp
  | e :: l, i + 1, h, j, hj => by
    rw [List.flatMap_cons, List.getElem?_append_right (by show 7 ≤ _; omega)]
    have := flat7 l i (by simpa using h) j hj
    rw [show (i + 1) * 7 + j - (fcel e).length = i * 7 + j by show _ - 7 = _; omega, this]
    simp
def RowI (lo hi : Nat) (W : World) : Nat → Option Addr → Nat → List FT → Prop
  | 0, ao, ca, l => l = [] ∧ ao = none ∧ ca = 0
  | d + 1, ao, ca, l => l.length ≤ big ∧ l.length ≤ ca ∧ (l = [] ∧ ao = none ∧ ca = 0 ∨ ∃ b cs, ao = some ⟨b, 0, none⟩ ∧ lo ≤ b ∧ b < hi ∧ W.heap[b]? = some (.cells cs 52 (0, 0)) ∧ cs.size = ca * 7 ∧ ca ≤ maxLen ∧ ∃ A B : Nat → Nat, ∀ i (h : i < l.length), lo ≤ A i ∧ A i ≤ B i ∧ B i ≤ hi ∧ ¬ (A i ≤ b ∧ b < B i) ∧ (∀ j, j < i → B j ≤ A i) ∧ ∃ ao' ca', CellsAt W b (i * 7) l[i] ao' ca' ∧ RowI (A i) (B i) W d ao' ca' l[i].kids)
theorem RowI.nil (lo hi : Nat) (W : World) : ∀ d, RowI lo hi W d none 0 []
  | 0 => ⟨rfl, rfl, rfl⟩
  | _ + 1 => ⟨by simp [big], Nat.le_refl _, .inl ⟨rfl, rfl, rfl⟩⟩
theorem RowI.le {lo hi : Nat} {W : World} : ∀ {d : Nat} {ao : Option Addr} {ca : Nat} {l : List FT}, RowI lo hi W d ao ca l → l.length ≤ ca
  | 0, _, _, _, h => by rw [h.1]; exact Nat.zero_le _
  | _ + 1, _, _, _, h => h.2.1
theorem RowI.rowAt {W : World} : ∀ {d lo hi : Nat} {ao : Option Addr} {ca : Nat} {l : List FT}, RowI lo hi W d ao ca l → RowAt (fun b => lo ≤ b ∧ b < hi) W d ao l
  | 0, _, _, _, _, _, h => h.1
  | _ + 1, lo, hi, _, _, _, h => ⟨h.1, fun hn => by
    rcases h.2.2 with ⟨e, -⟩ | ⟨b, cs, e, h1, h2, -, -, -, A, B, hi'⟩
    · exact absurd e hn
    refine ⟨b, 0, e, ⟨h1, h2⟩, fun i hl => ?_⟩
    obtain ⟨a1, -, a3, -, -, ao', ca', hc, hr⟩ := hi' i hl
    rw [Nat.zero_add]
    exact ⟨ao', ca', hc, hr.le, hr.rowAt.mono fun b hb => ⟨Nat.le_trans a1 hb.1, Nat.lt_of_lt_of_le hb.2 a3⟩⟩⟩
theorem RowI.kept {W W' : World} : ∀ {d lo hi : Nat} {ao : Option Addr} {ca : Nat} {l : List FT}, RowI lo hi W d ao ca l → (∀ b, lo ≤ b → b < hi → W'.heap[b]? = W.heap[b]?) → RowI lo hi W' d ao ca l
  | 0, _, _, _, _, _, h, _ => h
  | _ + 1, lo, hi, _, _, _, h, k => ⟨h.1, h.2.1, h.2.2.imp id fun ⟨b, cs, e, h1, h2, h3, h4, h5, A, B, hi'⟩ => ⟨b, cs, e, h1, h2, (k b h1 h2).trans h3, h4, h5, A, B, fun i hl => by
    obtain ⟨a1, a2, a3, a4, a5, ao', ca', hc, hr⟩ := hi' i hl
    exact ⟨a1, a2, a3, a4, a5, ao', ca', hc.kept (k b h1 h2), hr.kept fun z z1 z2 => k z (Nat.le_trans a1 z1) (Nat.lt_of_lt_of_le z2 a3)⟩⟩⟩
theorem RowI.wide {W : World} : ∀ {d lo hi lo' hi' : Nat} {ao : Option Addr} {ca : Nat} {l : List FT}, RowI lo hi W d ao ca l → lo' ≤ lo → hi ≤ hi' → RowI lo' hi' W d ao ca l
  | 0, _, _, _, _, _, _, _, h, _, _ => h
  | _ + 1, lo, hi, lo', hi', _, _, _, h, k1, k2 => ⟨h.1, h.2.1, h.2.2.imp id fun ⟨b, cs, e, h1, h2, h3, h4, h5, A, B, hj⟩ => ⟨b, cs, e, Nat.le_trans k1 h1, Nat.lt_of_lt_of_le h2 k2, h3, h4, h5, A, B, fun i hl => by
    obtain ⟨a1, a2, a3, a4, a5, r⟩ := hj i hl
    exact ⟨Nat.le_trans k1 a1, a2, Nat.le_trans a3 k2, a4, a5, r⟩⟩⟩
def FV (d : Nat) (W w' : World) (f : FT) (v : Value) : Prop := ∃ ko kc, v = .agg #[.string f.name, .bool f.nul, .int .i64 f.kind, .int .i64 f.width, .int .i64 f.id, .int .i64 f.index, .slice ko f.kids.length kc] ∧ f.kids.length ≤ kc ∧ RowI W.heap.size w'.heap.size w' d ko kc f.kids
structure FL (W w' : World) (d : Nat) (l : List FE) (vo : Option Addr) (vc : Nat) : Prop where
  row : LAt W w' 52 7 fcel l vo vc
  kids : ∃ A B : Nat → Nat, ∀ i (h : i < l.length), W.heap.size ≤ A i ∧ A i ≤ B i ∧ B i ≤ w'.heap.size ∧ (∀ g, (Value.slice vo l.length vc).ownBlock = some g → ¬ (A i ≤ g ∧ g < B i)) ∧ (∀ j, j < i → B j ≤ A i) ∧ RowI (A i) (B i) w' d l[i].2.1 l[i].2.2 l[i].1.kids
theorem FL.nil (W w' : World) (d : Nat) : FL W w' d [] none 0 := ⟨LAt.nil _ _ _ _ _, fun _ => 0, fun _ => 0, fun i h => by simp at h⟩
theorem FL.kp {W U U' : World} {d : Nat} {l : List FE} {vo : Option Addr} {vc p : Nat} (h : FL W U d l vo vc) (k : Keeps U U' (fun z => z = p)) (hp : p < W.heap.size) : FL W U' d l vo vc := by
  obtain ⟨A, B, hk⟩ := h.kids
  refine ⟨h.row.kp k hp, A, B, fun i hi => ?_⟩
  obtain ⟨a1, a2, a3, a4, a5, r⟩ := hk i hi
  exact ⟨a1, a2, Nat.le_trans a3 k.size, a4, a5, r.kept fun b b1 b2 => k.block b (by omega) (by omega)⟩
structure FL2 (W wr U : World) (d : Nat) (l : List FE) (vo : Option Addr) (vc : Nat) : Prop extends FL W U d l vo vc where
  old : ∃ A B : Nat → Nat, ∀ i (h : i < l.length), W.heap.size ≤ A i ∧ A i ≤ B i ∧ B i ≤ wr.heap.size ∧ (∀ g, (Value.slice vo l.length vc).ownBlock = some g → ¬ (A i ≤ g ∧ g < B i)) ∧ (∀ j, j < i → B j ≤ A i) ∧ RowI (A i) (B i) U d l[i].2.1 l[i].2.2 l[i].1.kids
theorem FL.kp2 {W U U' : World} {d : Nat} {l : List FE} {vo : Option Addr} {vc p : Nat} (h : FL W U d l vo vc) (k : Keeps U U' (fun z => z = p)) (hp : p < W.heap.size) : FL2 W U U' d l vo vc := by
  refine ⟨h.kp k hp, ?_⟩
  obtain ⟨A, B, hk⟩ := h.kids
  refine ⟨A, B, fun i hi => ?_⟩
  obtain ⟨a1, a2, a3, a4, a5, r⟩ := hk i hi
  exact ⟨a1, a2, a3, a4, a5, r.kept fun b b1 b2 => k.block b (by omega) (by omega)⟩
theorem FL.push {W wr U w1 : World} {d : Nat} {l : List FE} {vo vo' : Option Addr} {vc vc' n : Nat} {x : FT} {ko : Option Addr} {kc : Nat} {ob : Obj} (hW : W.heap.size ≤ wr.heap.size) (hU : wr.heap.size ≤ U.heap.size) (h0 : FL W wr d l vo vc) (h : FL2 W wr U d l vo vc) (hl : l.length = n) (hk : x.kids.length ≤ kc) (hr : RowI wr.heap.size U.heap.size U d ko kc x.kids)
    (hown : w1.ownsRow 0 52 7 (.slice vo' (n + 1) vc') (n + 1) (l.flatMap fcel ++ fcel (x, ko, kc))) (hgrow : (U.alloc ob).grownBy w1 (Value.slice vo n vc).ownBlock) (hblk : (Value.slice vo' (n + 1) vc').ownBlock = (Value.slice vo n vc).ownBlock ∨ ∀ g, (Value.slice vo' (n + 1) vc').ownBlock = some g → (U.alloc ob).heap.size ≤ g) :
    FL W w1 d (l ++ [(x, ko, kc)]) vo' vc' := by
  subst hl
  have gA : Gr U (U.alloc ob) := gr_alloc U _
  have sA := gA.size
  have kA : Keeps U w1 (fun z => (Value.slice vo l.length vc).ownBlock = some z) := (gA.mono fun _ _ h => h.elim).tr (Keeps.ofGrown hgrow)
  have hL : (l ++ [(x, ko, kc)]).length = l.length + 1 := by simp
  obtain ⟨A, B, hkd⟩ := h.old
  have hn0 : ∀ b, wr.heap.size ≤ b → (Value.slice vo l.length vc).ownBlock ≠ some b := fun b hb e => by have := own_lt h0.row.own b e; omega
  refine ⟨⟨?_, fun g e => ?_⟩, fun i => if i < l.length then A i else wr.heap.size, fun i => if i < l.length then B i else U.heap.size, fun i hi => ?_⟩
  · rw [hL, List.flatMap_append]; simpa using hown
  · rw [hL] at e
    refine hblk.elim (fun q => h.row.new g (q ▸ e)) fun q => ?_
    have a1 := q g e
    omega
  rw [hL] at hi ⊢
  have hne : ∀ b, b < U.heap.size → (Value.slice vo l.length vc).ownBlock ≠ some b → (Value.slice vo' (l.length + 1) vc').ownBlock ≠ some b := fun b hb hb' e => by
    rcases hblk with q | q
    · exact hb' (q ▸ e)
    have := q b e; omega
  by_cases hil : i < l.length
  · simp only [if_pos hil]
    obtain ⟨a1, a2, a3, a4, a5, r⟩ := hkd i hil
    refine ⟨a1, a2, Nat.le_trans a3 (Nat.le_trans hU kA.size), fun g e hg => hne g (by omega) (fun e' => a4 g e' hg) e, fun j hj => ?_, ?_⟩
    · simp only [if_pos (show j < l.length by omega)]
      exact a5 j hj
    rw [List.getElem_append_left hil]
    exact r.kept fun b b1 b2 => kA.block b (by omega) fun e => a4 b e ⟨b1, b2⟩
  have e : i = l.length := by omega
  subst e
  simp only [if_neg hil]
  refine ⟨hW, hU, Nat.le_trans (Nat.le_refl _) kA.size, fun g e hg => hne g hg.2 (hn0 g hg.1) e, fun j hj => ?_, ?_⟩
  · simp only [if_pos hj]
    exact (hkd j hj).2.2.1
  simp only [List.getElem_append_right (Nat.le_refl _), Nat.sub_self, List.getElem_cons_zero]
  exact hr.kept fun b b1 b2 => kA.block b b2 (hn0 b b1)
theorem FL.rowAt {W w' : World} {d : Nat} {l : List FE} {vo : Option Addr} {vc : Nat} (h : FL W w' d l vo vc) (hb : l.length ≤ big) : l.length ≤ vc ∧ RowI W.heap.size w'.heap.size w' (d + 1) vo vc (l.map (·.1)) := by
  rcases h.row.own.2 with ⟨e, h0⟩ | ⟨g, cap, cur, e, h1, h2, h3, h4⟩
  · have : l = [] := List.length_eq_zero_iff.1 h0
    subst this
    cases e
    exact ⟨Nat.zero_le _, RowI.nil _ _ _ _⟩
  cases e
  obtain ⟨A, B, hkd⟩ := h.kids
  refine ⟨by omega, by simpa using hb, by simpa using (by omega : l.length ≤ vc), .inr ⟨g, cur, rfl, h.row.new g rfl, own_lt h.row.own g rfl, h2, h4.2.1, h4.1, A, B, fun i hi => ?_⟩⟩
  have hil : i < l.length := by simpa using hi
  obtain ⟨a1, a2, a3, a4, a5, r⟩ := hkd i hil
  have hc : ∀ j, j < 7 → w'.cell? ⟨g, i * 7 + j, none⟩ = (fcel l[i])[j]? := fun j hj => by
    rw [h.row.own.cellAt (i * 7 + j) (by omega), flat7 l i hil j hj]
  refine ⟨a1, a2, a3, a4 g rfl, a5, l[i].2.1, l[i].2.2, ?_, by rw [List.getElem_map]; exact r⟩
  rw [List.getElem_map]
  exact ⟨hc 0 (by omega), hc 1 (by omega), hc 2 (by omega), hc 3 (by omega), hc 4 (by omega), hc 5 (by omega), hc 6 (by omega)⟩
end Go.Proofs.YtdihbfjjddmbiaaGreatDoor.Kit
